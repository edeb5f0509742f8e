/- CardMerges: the walk. -/
import Derived.Test.YtgdidamjgaegkaaCardK
namespace Go.Proofs.Ytgdidamjgaegkaa
set_option linter.unusedVariables false
open Go Go.RowKit BitM

theorem rangeC {w : World} {g : Nat} {id ver lab : Int} {f : List V3} (h : Blk w g (ccells id ver lab f)) : w.rangeAt g 3 (fcells f) := h.fieldsC

set_option maxRecDepth 100000 in
set_option maxHeartbeats 6400000 in
theorem walk_merges (id ver lab pl : Int) (x : BitVec 32) (C P : List V3) (w : World) (hC : C.length = 8) (hP : P.length = 8) (hlo : -9223372036854775808 ≤ ver) (hhi : ver ≤ 9223372036854775807) :
    Calls Try.prog 5 #[.agg (ccells id ver lab C).toArray, .agg (pcells (x.toNat : Int) pl P).toArray] w fun e w' => e = .returned (.bool true) ∧ Below w.heap.size w w' := by
  have HL0 := Lib.hid (ccells_len id ver lab hC)
  have HL1 := Lib.hid (pcells_len (x.toNat : Int) pl hP)
  have HLC : Hid ((fcells C).length = 24) := Lib.hid (by rw [fcells_len, hC])
  have HLP : Hid ((fcells P).length = 24) := Lib.hid (by rw [fcells_len, hP])
  have HA := Lib.hid (fun wx : World => large_any C wx hC)
  have HB := Lib.hid (fun wx : World => large_any P wx hP)
  have HK := Lib.hid (fun wx : World => rpcheck_any x pl P wx hP)
  have HC := Lib.hid hC
  have HP := Lib.hid hP
  obtain ⟨F, hF⟩ : ∃ F, F = mix (fun i => has x (i : Int)) P C := ⟨_, rfl⟩
  obtain ⟨nl, hnl⟩ : ∃ nl, nl = (if has x 8 then pl else lab) := ⟨_, rfl⟩
  have hF8 : F.length = 8 := by rw [hF, mix_len]
  have HL5 := Lib.hid (ccells_len id (ver + 1) nl hF8)
  have HF8 := Lib.hid hF8
  have HF := Lib.hid hF
  have HNL := Lib.hid hnl
  obtain ⟨D, hD⟩ : ∃ D, D = dmask lab C nl F := ⟨_, rfl⟩
  have HD := Lib.hid (fun wx : World => diff_any id ver lab id (ver + 1) nl C F wx hC hF8)
  rw [← hD] at HD
  have HWI := Lib.hid (fun wx : World => (rwithin_any D x wx).mono (fun e w' (h : e = .returned (.bool (decide (∀ i : Nat, i < 32 → has D (i : Int) = true → has x (i : Int) = true))) ∧ wx = w') => (show e = .returned (.bool true) ∧ Below wx.heap.size wx w' from by obtain ⟨h1, h2⟩ := h; subst h2; rw [hD, hnl, hF, dmask_within] at h1; exact ⟨h1, Below.refl _ _⟩)))
  have B0 := Blk.new w (ccells id ver lab C) 27
  obtain ⟨ca, hca⟩ : ∃ ca, ca = (ccells id ver lab C).toArray := ⟨_, rfl⟩
  rw [← hca] at B0 ⊢
  have B1 := Blk.new (w.alloc (.cells ca 27)) (pcells (x.toNat : Int) pl P) 29
  obtain ⟨pa, hpa⟩ : ∃ pa, pa = (pcells (x.toNat : Int) pl P).toArray := ⟨_, rfl⟩
  rw [← hpa] at B1 ⊢
  have hw0 := ((Below.refl w.heap.size w).alloc (Nat.le_refl _) (.cells ca 27)).alloc (by simp) (.cells pa 29)
  replace B0 := B0.alloc (.cells pa 29)
  have hs1 : (w.alloc (.cells ca 27)).heap.size = w.heap.size + 1 := by simp
  rw [hs1] at B1
  generalize hW : (w.alloc (.cells ca 27)).alloc (.cells pa 29) = W at *
  have HW := Lib.hid hW
  have HBW := Lib.hid hw0
  clear hF hnl hD hca hpa hs1 hW hw0 hC hP hF8
  have RF := B0.fieldsC
  have hu8 := Try.underlying25
  have hu := Try.underlying27
  have hup := Try.underlying29
  rw [← HW.out] at RF
  cases ht : tooLong C with
  | true =>
    rw [ht] at HA
    clear ht
    go_enter Try.func5, Try.ntmps5
    go_wp2_with (first
      | (refine wpList_load_mid rfl 25 (.tmp 7) rfl w.heap.size 3 rfl (fcells C) _ RF hu8 rfl (by rw [HLC.out]; exact info_fields) ?_))
    rw [HW.out]
    refine (HA.out W).mono ?_
    rintro e w1 ⟨rfl, hb⟩
    have hb1 := HBW.out.trans (hb.mono HBW.out.size)
    clear RF
    go_wp2_with fail
    refine (aw_any _).mono ?_
    rintro e w9 ⟨rfl, b9⟩
    go_wp2_with fail
    go_ret
    exact ⟨rfl, hb1.trans (b9.mono hb1.size)⟩
  | false =>
    rw [ht] at HA
    clear ht
    go_enter Try.func5, Try.ntmps5
    go_wp2_with (first
      | (refine wpList_load_mid rfl 25 (.tmp 7) rfl w.heap.size 3 rfl (fcells C) _ RF hu8 rfl (by rw [HLC.out]; exact info_fields) ?_))
    rw [HW.out]
    refine (HA.out W).mono ?_
    rintro e w1 ⟨rfl, hb⟩
    have hb1 := HBW.out.trans (hb.mono HBW.out.size)
    have C0 := B0.later hb
    have C1 := B1.later hb
    clear RF B0 B1 HA hb HBW HW
    have RF := C1.fieldsP
    cases ht : tooLong P with
    | true =>
      rw [ht] at HB
      clear ht
      go_wp2_with (first
        | (refine wpList_load_g (by rfl) 25 (.tmp 11) rfl (w.heap.size + 1) 2 rfl (fcells P) _ RF hu8 rfl (by rw [HLP.out]; exact info_fields) ?_))
      refine (HB.out _).mono ?_
      rintro e w2 ⟨rfl, hb⟩
      have hb2 := hb1.trans (hb.mono hb1.size)
      clear RF
      go_wp2_with fail
      refine (aw_any _).mono ?_
      rintro e w9 ⟨rfl, b9⟩
      go_wp2_with fail
      go_ret
      exact ⟨rfl, hb2.trans (b9.mono hb2.size)⟩
    | false =>
      rw [ht] at HB
      clear ht
      go_wp2_with (first
        | (refine wpList_load_g (by rfl) 25 (.tmp 11) rfl (w.heap.size + 1) 2 rfl (fcells P) _ RF hu8 rfl (by rw [HLP.out]; exact info_fields) ?_))
      refine (HB.out _).mono ?_
      rintro e w2 ⟨rfl, hb⟩
      have hb2 := hb1.trans (hb.mono hb1.size)
      have D0 := C0.later hb
      have D1 := C1.later hb
      clear RF C0 C1 HB hb hb1
      have RP := D1.wholeC
      by_cases hk0 : pchk x pl P = 0
      · have HPZ : Hid (pchk x pl P = 0) := Lib.hid hk0
        rw [hk0] at HK
        clear hk0
        go_wp2_with (first
          | (refine wpList_load_g (by rfl) 29 (.tmp 3) rfl (w.heap.size + 1) 0 rfl (pcells (x.toNat : Int) pl P) _ RP hup rfl (by rw [HL1.out]; exact info_patch) ?_))
        refine (HK.out _).mono ?_
        rintro e w3 ⟨rfl, hb⟩
        have hb3 := hb2.trans (hb.mono hb2.size)
        have C0 := D0.later hb
        have C1 := D1.later hb
        clear RP D0 D1 HK hb hb2
        obtain ⟨c0, c1, c2⟩ := C0.card
        by_cases hv1 : ver < 0
        · have d1 : decide (ver < 0) = true := by simpa using hv1
          go_wp2_with fail
          refine (aw_any _).mono ?_
          rintro e w9 ⟨rfl, b9⟩
          go_wp2_with fail
          go_ret
          exact ⟨rfl, hb3.trans (b9.mono hb3.size)⟩
        · have d1 : decide (ver < 0) = false := by simpa using hv1
          by_cases hv2 : 1099511627776 ≤ ver
          · have d2 : decide (1099511627776 ≤ ver) = true := by simpa using hv2
            go_wp2_with fail
            refine (aw_any _).mono ?_
            rintro e w9 ⟨rfl, b9⟩
            go_wp2_with fail
            go_ret
            exact ⟨rfl, hb3.trans (b9.mono hb3.size)⟩
          · have d2 : decide (1099511627776 ≤ ver) = false := by simpa using hv2
            have D0 := C0
            have D1 := C1
            have hnv : nextVer ver = ver + 1 := if_pos (by omega)
            have HM := Lib.hid (fun wx : World => merge_any id ver lab pl x C P wx HC.out HP.out (by omega))
            rw [hnv, ← HF.out, ← HNL.out] at HM
            have HVR : Hid (0 ≤ ver ∧ ver < 1099511627776) := Lib.hid (by omega)
            clear hnv hv1 hv2
            go_wp2_with (first
              | (refine wpList_load_mid rfl 27 (.tmp 2) rfl w.heap.size 0 rfl (ccells id ver lab C) _ (C0.wholeC) hu rfl (by rw [HL0.out]; exact info_card) ?_)
              | (refine wpList_load_mid rfl 29 (.tmp 3) rfl (w.heap.size + 1) 0 rfl (pcells (x.toNat : Int) pl P) _ (C1.wholeC) hup rfl (by rw [HL1.out]; exact info_patch) ?_))
            clear c0 c1 c2 d1 d2
            refine (HM.out _).mono ?_
            rintro e w4 ⟨rfl, hb⟩
            have hb4 := hb3.trans (hb.mono hb3.size)
            have A0 := (C0.later hb).alloc (.cells (ccells 0 0 0 zeros).toArray 27)
            have A1 := (C1.later hb).alloc (.cells (ccells 0 0 0 zeros).toArray 27)
            have A5 := Blk.new w4 (ccells 0 0 0 zeros) 27
            have hg2 : w.heap.size + 2 ≤ w4.heap.size := by have := (C1.later hb).lt; omega
            have TH := A5.there 0 27 (by rw [ccells_len 0 0 0 zeros_len]; omega)
            have E5 := A5.whole (ds := ccells id (ver + 1) nl F) (by rw [HL5.out, ccells_len 0 0 0 zeros_len])
            have E0 := Blk.setsOther (b := w4.heap.size) (g := w.heap.size) (by omega) (ccells id (ver + 1) nl F) 0 A0
            have E1 := Blk.setsOther (b := w4.heap.size) (g := w.heap.size + 1) (by omega) (ccells id (ver + 1) nl F) 0 A1
            have EB := below_sets (B := w.heap.size) (b := w4.heap.size) hb4.size (ccells id (ver + 1) nl F) 0 (hb4.alloc hb4.size (.cells (ccells 0 0 0 zeros).toArray 27))
            have hone : ∀ v ∈ ccells id (ver + 1) nl F, v.oneCell' = true := ccells_one _ _ _ _
            clear C0 C1 D0 D1 A0 A1 A5 hb hb3 HM
            rw [zc27] at TH E0 E1 E5 EB
            go_wp2_with (first
              | (refine wpList_store_mid rfl 27 (.tmp 5) (.tmp 33) rfl w4.heap.size 0 (ccells id (ver + 1) nl F).toArray rfl rfl (by simpa [HL5.out] using TH) (by simpa [HL5.out] using info_card) (all_oneCell_toArray hone) ?_))
            clear TH hone
            obtain ⟨g, hg⟩ : ∃ g, g = w4.heap.size := ⟨_, rfl⟩
            rw [← hg] at E0 E1 E5 EB hg2 ⊢
            clear hg
            go_loopw [6] (fun i wr => ∃ k : Nat, k ≤ 8 ∧ i = .int .i64 k ∧ Blk wr w.heap.size (ccells id ver lab C) ∧ Blk wr (w.heap.size + 1) (pcells (x.toNat : Int) pl P) ∧ Blk wr g (ccells id (ver + 1) nl F) ∧ Below w.heap.size w wr) (fun i _ => 8 - (intOf i).toNat)
            case atStart => exact ⟨0, by omega, rfl, E0, E1, E5, EB⟩
            case round =>
              obtain ⟨k, hk, rfl, D0, D1, D5, hbr⟩ := hrel
              clear E0 E1 E5 EB
              by_cases hlt : k < 8
              · have d8 : (k : Int) < 8 := by omega
                have hkC : k < C.length := by rw [HC.out]; exact hlt
                have hkP : k < P.length := by rw [HP.out]; exact hlt
                have hkF : k < F.length := by rw [HF8.out]; exact hlt
                have hv24 := Try.underlying24
                cases hx : has x (k : Int) with
                | true =>
                  obtain ⟨v, hv⟩ : ∃ v, v = P[k] := ⟨_, rfl⟩

                  have HH := Lib.hid (fun wx : World => (rhas_any x (k : Int) wx).mono (fun e w' (h : e = .returned (.bool (has x (k : Int))) ∧ wx = w') => (show e = .returned (.bool true) ∧ Below wx.heap.size wx w' from by obtain ⟨h1, h2⟩ := h; subst h2; rw [hx] at h1; exact ⟨h1, Below.refl _ _⟩)))
                  have hFv : F[k]'hkF = v := by
                    have h1 := mix_getD (fun i => has x (i : Int)) P C k hlt
                    rw [hx, ← HF.out] at h1
                    have h2 : F.getD k zv = F[k]'hkF := by simp [List.getD, hkF]
                    rw [← h2, h1, hv]
                    simp [List.getD, hkP]
                  have HV := Lib.hid (fun (w1 : World) (hl : Le wr w1) => range3 (v := v) (by rw [← hFv]; exact Blk.field (o := 3) (D5.later hl) k rfl hkF))
                  have HU := Lib.hid (fun (w1 : World) (hl : Le wr w1) => range3 (v := v) (by rw [hv]; exact Blk.field (o := 2) ((D1).later hl) k rfl hkP))
                  have p0 : ∀ kk : LW wr, kk.val.cell? ⟨w.heap.size + 1, 0, none⟩ = some (.int .u32 (x.toNat : Int)) := fun kk => (D1.later kk.le).patch.1
                  clear hFv hv hx
                  go_wp2_with fail
                  refine wp_region_steady [] 118 (by kernel_rfl) (by kernel_rfl) (by kernel_rfl) (by rfl) ?_
                  iterate 3 (refine wpG_quiet (by rfl) (by rfl) (by rfl) (fun K hK => ?_); go_big_quiet_op; refine hK _ ?_; clear hK K)
                  refine wpG_call (by rfl) (by rfl) 28 #[.int .u32 (x.toNat : Int), .int .i64 k] (.bool true) (by intro _; simp [go_sem]) (by kernel_rfl) (fun w1 hl => (HH.out w1)) ?_
                  simp only [Act.put, List.setIfInBounds_toArray, List.set_cons_zero, List.set_cons_succ]
                  iterate 1 (refine wpG_quiet (by rfl) (by rfl) (by rfl) (fun K hK => ?_); go_big_quiet_op; refine hK _ ?_; clear hK K)
                  iterate 3 (refine wpG_quiet (by rfl) (by rfl) (by rfl) (fun K hK => ?_); go_big_quiet_op; refine hK _ ?_; clear hK K)
                  refine wpG_run (by rfl) (by rfl) (.agg (vcells v).toArray) (fun w1 hl => exec_load 24 (.tmp 45) rfl g (3 + k * 3) rfl (vcells v) _ (HV.out w1 hl.1) hv24 rfl info_val) ?_
                  simp only [Act.put, List.setIfInBounds_toArray, List.set_cons_zero, List.set_cons_succ]
                  iterate 3 (refine wpG_quiet (by rfl) (by rfl) (by rfl) (fun K hK => ?_); go_big_quiet_op; refine hK _ ?_; clear hK K)
                  refine wpG_run (by rfl) (by rfl) (.agg (vcells v).toArray) (fun w1 hl => exec_load 24 (.tmp 49) rfl (w.heap.size + 1) (2 + k * 3) rfl (vcells v) _ (HU.out w1 hl.1) hv24 rfl info_val) ?_
                  simp only [Act.put, List.setIfInBounds_toArray, List.set_cons_zero, List.set_cons_succ]
                  refine wpG_run (by rfl) (by rfl) (.bool false) (fun w1 hl => exec_neq 24 _ (.tmp 46) (.tmp 50) rfl _ _ rfl rfl guard_val true (by rw [show true = decide (v = v) from (decide_eq_true rfl).symm]; exact eq_val 9998 v v w1)) ?_
                  simp only [Act.put, List.setIfInBounds_toArray, List.set_cons_zero, List.set_cons_succ]
                  iterate 5 (refine wpG_quiet (by rfl) (by rfl) (by rfl) (fun K hK => ?_); go_big_quiet_op; refine hK _ ?_; clear hK K)
                  refine wpG_call (by rfl) (by rfl) 28 #[.int .u32 (x.toNat : Int), .int .i64 k] (.bool true) (by intro _; simp [go_sem]) (by kernel_rfl) (fun w1 hl => (HH.out w1)) ?_
                  simp only [Act.put, List.setIfInBounds_toArray, List.set_cons_zero, List.set_cons_succ]
                  refine wpG_run (by rfl) (by rfl) (.bool false) (fun w1 hl => by simp [go_sem]) ?_
                  simp only [Act.put, List.setIfInBounds_toArray, List.set_cons_zero, List.set_cons_succ]
                  refine wpG_run (by rfl) (by rfl) (.bool false) (fun w1 hl => by simp [go_sem]) ?_
                  simp only [Act.put, List.setIfInBounds_toArray, List.set_cons_zero, List.set_cons_succ]
                  iterate 9 (refine wpG_skip (by rfl) ?_; simp only [Act.put, List.setIfInBounds_toArray, List.set_cons_zero, List.set_cons_succ])
                  iterate 2 (refine wpG_quiet (by rfl) (by rfl) (by rfl) (fun K hK => ?_); go_big_quiet_op; refine hK _ ?_; clear hK K)
                  refine wpG_nil fun w1 hl _ => ?_
                  clear p0
                  have hb1 := hbr.trans (hl.mono hbr.size)
                  have E0 := D0.later hl
                  have E1 := D1.later hl
                  have E5 := D5.later hl
                  clear D0 D1 D5 hbr
                  go_wp2_with fail
                  go_roundw
                  case rel => exact ⟨k + 1, by omega, by go_num, E0, E1, E5, hb1⟩
                  case measure => simp [intOf]; omega

                | false =>
                  obtain ⟨v, hv⟩ : ∃ v, v = C[k] := ⟨_, rfl⟩

                  have HH := Lib.hid (fun wx : World => (rhas_any x (k : Int) wx).mono (fun e w' (h : e = .returned (.bool (has x (k : Int))) ∧ wx = w') => (show e = .returned (.bool false) ∧ Below wx.heap.size wx w' from by obtain ⟨h1, h2⟩ := h; subst h2; rw [hx] at h1; exact ⟨h1, Below.refl _ _⟩)))
                  have hFv : F[k]'hkF = v := by
                    have h1 := mix_getD (fun i => has x (i : Int)) P C k hlt
                    rw [hx, ← HF.out] at h1
                    have h2 : F.getD k zv = F[k]'hkF := by simp [List.getD, hkF]
                    rw [← h2, h1, hv]
                    simp [List.getD, hkC]
                  have HV := Lib.hid (fun (w1 : World) (hl : Le wr w1) => range3 (v := v) (by rw [← hFv]; exact Blk.field (o := 3) (D5.later hl) k rfl hkF))
                  have HU := Lib.hid (fun (w1 : World) (hl : Le wr w1) => range3 (v := v) (by rw [hv]; exact Blk.field (o := 3) ((D0).later hl) k rfl hkC))
                  have p0 : ∀ kk : LW wr, kk.val.cell? ⟨w.heap.size + 1, 0, none⟩ = some (.int .u32 (x.toNat : Int)) := fun kk => (D1.later kk.le).patch.1
                  clear hFv hv hx
                  go_wp2_with fail
                  refine wp_region_steady [] 118 (by kernel_rfl) (by kernel_rfl) (by kernel_rfl) (by rfl) ?_
                  iterate 3 (refine wpG_quiet (by rfl) (by rfl) (by rfl) (fun K hK => ?_); go_big_quiet_op; refine hK _ ?_; clear hK K)
                  refine wpG_call (by rfl) (by rfl) 28 #[.int .u32 (x.toNat : Int), .int .i64 k] (.bool false) (by intro _; simp [go_sem]) (by kernel_rfl) (fun w1 hl => (HH.out w1)) ?_
                  simp only [Act.put, List.setIfInBounds_toArray, List.set_cons_zero, List.set_cons_succ]
                  iterate 1 (refine wpG_quiet (by rfl) (by rfl) (by rfl) (fun K hK => ?_); go_big_quiet_op; refine hK _ ?_; clear hK K)
                  iterate 9 (refine wpG_skip (by rfl) ?_; simp only [Act.put, List.setIfInBounds_toArray, List.set_cons_zero, List.set_cons_succ])
                  iterate 5 (refine wpG_quiet (by rfl) (by rfl) (by rfl) (fun K hK => ?_); go_big_quiet_op; refine hK _ ?_; clear hK K)
                  refine wpG_call (by rfl) (by rfl) 28 #[.int .u32 (x.toNat : Int), .int .i64 k] (.bool false) (by intro _; simp [go_sem]) (by kernel_rfl) (fun w1 hl => (HH.out w1)) ?_
                  simp only [Act.put, List.setIfInBounds_toArray, List.set_cons_zero, List.set_cons_succ]
                  refine wpG_run (by rfl) (by rfl) (.bool true) (fun w1 hl => by simp [go_sem]) ?_
                  simp only [Act.put, List.setIfInBounds_toArray, List.set_cons_zero, List.set_cons_succ]
                  refine wpG_run (by rfl) (by rfl) (.bool true) (fun w1 hl => by simp [go_sem]) ?_
                  simp only [Act.put, List.setIfInBounds_toArray, List.set_cons_zero, List.set_cons_succ]
                  iterate 3 (refine wpG_quiet (by rfl) (by rfl) (by rfl) (fun K hK => ?_); go_big_quiet_op; refine hK _ ?_; clear hK K)
                  refine wpG_run (by rfl) (by rfl) (.agg (vcells v).toArray) (fun w1 hl => exec_load 24 (.tmp 62) rfl g (3 + k * 3) rfl (vcells v) _ (HV.out w1 hl.1) hv24 rfl info_val) ?_
                  simp only [Act.put, List.setIfInBounds_toArray, List.set_cons_zero, List.set_cons_succ]
                  iterate 3 (refine wpG_quiet (by rfl) (by rfl) (by rfl) (fun K hK => ?_); go_big_quiet_op; refine hK _ ?_; clear hK K)
                  refine wpG_run (by rfl) (by rfl) (.agg (vcells v).toArray) (fun w1 hl => exec_load 24 (.tmp 66) rfl w.heap.size (3 + k * 3) rfl (vcells v) _ (HU.out w1 hl.1) hv24 rfl info_val) ?_
                  simp only [Act.put, List.setIfInBounds_toArray, List.set_cons_zero, List.set_cons_succ]
                  refine wpG_run (by rfl) (by rfl) (.bool false) (fun w1 hl => exec_neq 24 _ (.tmp 63) (.tmp 67) rfl _ _ rfl rfl guard_val true (by rw [show true = decide (v = v) from (decide_eq_true rfl).symm]; exact eq_val 9998 v v w1)) ?_
                  simp only [Act.put, List.setIfInBounds_toArray, List.set_cons_zero, List.set_cons_succ]
                  iterate 2 (refine wpG_quiet (by rfl) (by rfl) (by rfl) (fun K hK => ?_); go_big_quiet_op; refine hK _ ?_; clear hK K)
                  refine wpG_nil fun w1 hl _ => ?_
                  clear p0
                  have hb1 := hbr.trans (hl.mono hbr.size)
                  have E0 := D0.later hl
                  have E1 := D1.later hl
                  have E5 := D5.later hl
                  clear D0 D1 D5 hbr
                  go_wp2_with fail
                  go_roundw
                  case rel => exact ⟨k + 1, by omega, by go_num, E0, E1, E5, hb1⟩
                  case measure => simp [intOf]; omega

              · obtain rfl : k = 8 := by omega
                clear hk
                cases h8 : has x 8 with
                | true =>

                  have HLB := Lib.hid (fun wx : World => rlabels_any x wx)
                  rw [h8] at HLB
                  have hnl : nl = pl := by rw [HNL.out, h8]; rfl
                  have HNLL := Lib.hid hnl
                  obtain ⟨q0, q1⟩ := D1.patch
                  obtain ⟨c0, c1, c2⟩ := D0.card
                  obtain ⟨m0, m1, m2⟩ := D5.card
                  rw [hnl] at m2
                  clear h8 hnl
                  go_wp2_with fail
                  refine (HLB.out _).mono ?_
                  rintro e w2 ⟨rfl, rfl⟩
                  go_wp2_with fail
                  refine (HLB.out _).mono ?_
                  rintro e w2 ⟨rfl, rfl⟩
                  go_wp2_with fail
                  clear q0 q1 c0 c1 c2 m0 m1 m2
                  obtain ⟨hv1, hv2⟩ := HVR.out
                  have q0 : ∀ kk : LW wr, kk.val.cell? ⟨w.heap.size + 1, 0, none⟩ = some (.int .u32 (x.toNat : Int)) := fun kk => (D1.later kk.le).patch.1
                  have c0 : ∀ kk : LW wr, kk.val.cell? ⟨w.heap.size, 0, none⟩ = some (.int .i64 id) := fun kk => (D0.later kk.le).card.1
                  have c1 : ∀ kk : LW wr, kk.val.cell? ⟨w.heap.size, 1, none⟩ = some (.int .i64 ver) := fun kk => (D0.later kk.le).card.2.1
                  have m0 : ∀ kk : LW wr, kk.val.cell? ⟨g, 0, none⟩ = some (.int .i64 id) := fun kk => (D5.later kk.le).card.1
                  have m1 : ∀ kk : LW wr, kk.val.cell? ⟨g, 1, none⟩ = some (.int .i64 (ver + 1)) := fun kk => (D5.later kk.le).card.2.1
                  refine wp_region_steady [] 118 (by kernel_rfl) (by kernel_rfl) (by kernel_rfl) (by rfl) ?_
                  iterate 14 (refine wpG_quiet (by rfl) (by rfl) (by rfl) (fun K hK => ?_); go_big_quiet_op; refine hK _ ?_; clear hK K)
                  refine wpG_run (by rfl) (by rfl) (.agg (ccells id ver lab C).toArray) (fun w1 hl => exec_load 27 (.tmp 2) rfl w.heap.size 0 rfl (ccells id ver lab C) _ ((D0.later hl.1).wholeC) hu rfl (by rw [HL0.out]; exact info_card)) ?_
                  simp only [Act.put, List.setIfInBounds_toArray, List.set_cons_zero, List.set_cons_succ]
                  refine wpG_run (by rfl) (by rfl) (.agg (ccells id (ver + 1) nl F).toArray) (fun w1 hl => exec_load 27 (.tmp 5) rfl g 0 rfl (ccells id (ver + 1) nl F) _ ((D5.later hl.1).wholeC) hu rfl (by rw [HL5.out]; exact info_card)) ?_
                  simp only [Act.put, List.setIfInBounds_toArray, List.set_cons_zero, List.set_cons_succ]
                  refine wpG_call (by rfl) (by rfl) 16 #[.agg (ccells id ver lab C).toArray, .agg (ccells id (ver + 1) nl F).toArray] (.int .u32 (D.toNat : Int)) (by intro _; simp [go_sem]) (by kernel_rfl) (fun w1 hl => (HD.out w1)) ?_
                  simp only [Act.put, List.setIfInBounds_toArray, List.set_cons_zero, List.set_cons_succ]
                  iterate 2 (refine wpG_quiet (by rfl) (by rfl) (by rfl) (fun K hK => ?_); go_big_quiet_op; refine hK _ ?_; clear hK K)
                  refine wpG_call (by rfl) (by rfl) 30 #[.int .u32 (D.toNat : Int), .int .u32 (x.toNat : Int)] (.bool true) (by intro _; simp [go_sem]) (by kernel_rfl) (fun w1 hl => (HWI.out w1)) ?_
                  simp only [Act.put, List.setIfInBounds_toArray, List.set_cons_zero, List.set_cons_succ]
                  iterate 2 (refine wpG_quiet (by rfl) (by rfl) (by rfl) (fun K hK => ?_); go_big_quiet_op; refine hK _ ?_; clear hK K)
                  refine wpG_call (by rfl) (by rfl) 11 #[] (.bool true) (by intro _; simp [go_sem]) (by kernel_rfl) (fun w1 hl => (aw_any w1)) ?_
                  simp only [Act.put, List.setIfInBounds_toArray, List.set_cons_zero, List.set_cons_succ]
                  iterate 2 (refine wpG_quiet (by rfl) (by rfl) (by rfl) (fun K hK => ?_); go_big_quiet_op; refine hK _ ?_; clear hK K)
                  refine wpG_nil fun w1 hl _ => ?_
                  have hb1 := hbr.trans (hl.mono hbr.size)
                  clear D0 D1 D5 q0 c0 c1 m0 m1 hbr
                  go_wp2_with fail
                  go_ret
                  exact ⟨rfl, hb1⟩

                | false =>

                  have HLB := Lib.hid (fun wx : World => rlabels_any x wx)
                  rw [h8] at HLB
                  have hnl : nl = lab := by rw [HNL.out, h8]; rfl
                  have HNLL := Lib.hid hnl
                  obtain ⟨q0, q1⟩ := D1.patch
                  obtain ⟨c0, c1, c2⟩ := D0.card
                  obtain ⟨m0, m1, m2⟩ := D5.card
                  rw [hnl] at m2
                  clear h8 hnl
                  go_wp2_with fail
                  refine (HLB.out _).mono ?_
                  rintro e w2 ⟨rfl, rfl⟩
                  go_wp2_with fail
                  refine (HLB.out _).mono ?_
                  rintro e w2 ⟨rfl, rfl⟩
                  go_wp2_with fail
                  clear q0 q1 c0 c1 c2 m0 m1 m2
                  obtain ⟨hv1, hv2⟩ := HVR.out
                  have q0 : ∀ kk : LW wr, kk.val.cell? ⟨w.heap.size + 1, 0, none⟩ = some (.int .u32 (x.toNat : Int)) := fun kk => (D1.later kk.le).patch.1
                  have c0 : ∀ kk : LW wr, kk.val.cell? ⟨w.heap.size, 0, none⟩ = some (.int .i64 id) := fun kk => (D0.later kk.le).card.1
                  have c1 : ∀ kk : LW wr, kk.val.cell? ⟨w.heap.size, 1, none⟩ = some (.int .i64 ver) := fun kk => (D0.later kk.le).card.2.1
                  have m0 : ∀ kk : LW wr, kk.val.cell? ⟨g, 0, none⟩ = some (.int .i64 id) := fun kk => (D5.later kk.le).card.1
                  have m1 : ∀ kk : LW wr, kk.val.cell? ⟨g, 1, none⟩ = some (.int .i64 (ver + 1)) := fun kk => (D5.later kk.le).card.2.1
                  refine wp_region_steady [] 118 (by kernel_rfl) (by kernel_rfl) (by kernel_rfl) (by rfl) ?_
                  iterate 14 (refine wpG_quiet (by rfl) (by rfl) (by rfl) (fun K hK => ?_); go_big_quiet_op; refine hK _ ?_; clear hK K)
                  refine wpG_run (by rfl) (by rfl) (.agg (ccells id ver lab C).toArray) (fun w1 hl => exec_load 27 (.tmp 2) rfl w.heap.size 0 rfl (ccells id ver lab C) _ ((D0.later hl.1).wholeC) hu rfl (by rw [HL0.out]; exact info_card)) ?_
                  simp only [Act.put, List.setIfInBounds_toArray, List.set_cons_zero, List.set_cons_succ]
                  refine wpG_run (by rfl) (by rfl) (.agg (ccells id (ver + 1) nl F).toArray) (fun w1 hl => exec_load 27 (.tmp 5) rfl g 0 rfl (ccells id (ver + 1) nl F) _ ((D5.later hl.1).wholeC) hu rfl (by rw [HL5.out]; exact info_card)) ?_
                  simp only [Act.put, List.setIfInBounds_toArray, List.set_cons_zero, List.set_cons_succ]
                  refine wpG_call (by rfl) (by rfl) 16 #[.agg (ccells id ver lab C).toArray, .agg (ccells id (ver + 1) nl F).toArray] (.int .u32 (D.toNat : Int)) (by intro _; simp [go_sem]) (by kernel_rfl) (fun w1 hl => (HD.out w1)) ?_
                  simp only [Act.put, List.setIfInBounds_toArray, List.set_cons_zero, List.set_cons_succ]
                  iterate 2 (refine wpG_quiet (by rfl) (by rfl) (by rfl) (fun K hK => ?_); go_big_quiet_op; refine hK _ ?_; clear hK K)
                  refine wpG_call (by rfl) (by rfl) 30 #[.int .u32 (D.toNat : Int), .int .u32 (x.toNat : Int)] (.bool true) (by intro _; simp [go_sem]) (by kernel_rfl) (fun w1 hl => (HWI.out w1)) ?_
                  simp only [Act.put, List.setIfInBounds_toArray, List.set_cons_zero, List.set_cons_succ]
                  iterate 2 (refine wpG_quiet (by rfl) (by rfl) (by rfl) (fun K hK => ?_); go_big_quiet_op; refine hK _ ?_; clear hK K)
                  refine wpG_call (by rfl) (by rfl) 11 #[] (.bool true) (by intro _; simp [go_sem]) (by kernel_rfl) (fun w1 hl => (aw_any w1)) ?_
                  simp only [Act.put, List.setIfInBounds_toArray, List.set_cons_zero, List.set_cons_succ]
                  iterate 2 (refine wpG_quiet (by rfl) (by rfl) (by rfl) (fun K hK => ?_); go_big_quiet_op; refine hK _ ?_; clear hK K)
                  refine wpG_nil fun w1 hl _ => ?_
                  have hb1 := hbr.trans (hl.mono hbr.size)
                  clear D0 D1 D5 q0 c0 c1 m0 m1 hbr
                  go_wp2_with fail
                  go_ret
                  exact ⟨rfl, hb1⟩
      · have b3 : (pchk x pl P != 0) = true := by simpa using hk0
        obtain ⟨pk, hpk⟩ : ∃ pk, pk = pchk x pl P := ⟨_, rfl⟩
        rw [← hpk] at HK b3
        clear hk0 hpk
        go_wp2_with (first
          | (refine wpList_load_g (by rfl) 29 (.tmp 3) rfl (w.heap.size + 1) 0 rfl (pcells (x.toNat : Int) pl P) _ RP hup rfl (by rw [HL1.out]; exact info_patch) ?_))
        refine (HK.out _).mono ?_
        rintro e w3 ⟨rfl, hb⟩
        have hb3 := hb2.trans (hb.mono hb2.size)
        clear RP
        go_wp2_with fail
        refine (aw_any _).mono ?_
        rintro e w9 ⟨rfl, b9⟩
        go_wp2_with fail
        go_ret
        exact ⟨rfl, hb3.trans (b9.mono hb3.size)⟩
end Go.Proofs.Ytgdidamjgaegkaa
