/- Which items may be: the program's CheckItems, the document's. -/
import Derived.Test.YtepefocpeeihdaaU5
import Derived.Test.YtepefocpeeihdaaU2
import Derived.Test.YtepefocpeeihdaaU4
namespace Go.Proofs.Ytepefocpeeihdaa
set_option linter.unusedVariables false
set_option linter.unusedSimpArgs false
open Go Go.RowKit BitM

theorem i_next {L : List Im} {k : Nat} (hk : k < L.length) (h : iTo L k = true) (h1 : imay L[k] = true) (h2 : 1 ≤ rkey L[k] ∧ rkey L[k] < 1073741824 ∧ keyAt L k < rkey L[k]) : iTo L (k + 1) = true := by
  rw [iTo_succ, h, iAt_here hk, h1, decide_eq_true h2]; rfl
theorem i_no {L : List Im} {k : Nat} (hk : k < L.length) (h : imay L[k] = false) : igoes L = false := igoes_no hk (by rw [iAt_here hk, h, Bool.and_false])
theorem i_key {L : List Im} {k : Nat} (hk : k < L.length) (h : ¬ (1 ≤ rkey L[k] ∧ rkey L[k] < 1073741824 ∧ keyAt L k < rkey L[k])) : igoes L = false := igoes_no hk (by rw [iAt_here hk, decide_eq_false h, Bool.false_and])
theorem key_succ {L : List Im} {k : Nat} (hk : k < L.length) : keyAt L (k + 1) = rkey L[k] := by
  unfold keyAt
  simp [List.getElem?_eq_getElem hk]
theorem key_low {L : List Im} {k : Nat} (hk : k ≤ L.length) (h : iTo L k = true) : 0 ≤ keyAt L k := by
  cases k with
  | zero => exact Int.le_refl _
  | succ m =>
    rw [key_succ (by omega)]
    rw [iTo_succ, Bool.and_eq_true] at h
    have h2 := h.2
    rw [iAt_here (by omega), Bool.and_eq_true] at h2
    have := of_decide_eq_true h2.1
    omega
theorem imay_13 {x : Im} (h : x.kd = 1 ∨ x.kd = 3) : imay x = ckc x.cd := by unfold imay; rw [if_pos h]
theorem imay_2 {x : Im} (h : x.kd = 2) : imay x = decide (x.cd = (x.cd.1, 0, 0, zeros)) := by unfold imay; rw [if_neg (by omega), if_pos h]
theorem imay_else {x : Im} (h1 : x.kd ≠ 1) (h2 : x.kd ≠ 2) (h3 : x.kd ≠ 3) : imay x = false := by unfold imay; rw [if_neg (by omega), if_neg h2]
theorem zc28i : (icl ⟨0, zcd⟩).toArray = #[Value.int .i64 0, .int .i64 0, .int .i64 0, .int .u32 0, .int .i64 0, .int .i64 0, .string { data := #[] }, .int .i64 0, .int .i64 0, .string { data := #[] }, .int .i64 0, .int .i64 0, .string { data := #[] }, .int .i64 0, .int .i64 0, .string { data := #[] }, .int .i64 0, .int .i64 0, .string { data := #[] }, .int .i64 0, .int .i64 0, .string { data := #[] }, .int .i64 0, .int .i64 0, .string { data := #[] }, .int .i64 0, .int .i64 0, .string { data := #[] }] := rfl
theorem zc27i : (ccl zcd).toArray = #[Value.int .i64 0, .int .i64 0, .int .u32 0, .int .i64 0, .int .i64 0, .string { data := #[] }, .int .i64 0, .int .i64 0, .string { data := #[] }, .int .i64 0, .int .i64 0, .string { data := #[] }, .int .i64 0, .int .i64 0, .string { data := #[] }, .int .i64 0, .int .i64 0, .string { data := #[] }, .int .i64 0, .int .i64 0, .string { data := #[] }, .int .i64 0, .int .i64 0, .string { data := #[] }, .int .i64 0, .int .i64 0, .string { data := #[] }] := rfl
set_option maxRecDepth 100000 in
set_option maxHeartbeats 6400000 in
theorem igoes_any (A : Option Addr) (n c : Nat) (L : List Im) (w : World) (h : SeesR icl w A n c L) (hok : ∀ t ∈ L, okCd t.cd) (hz : n ≤ 65536) :
    Calls Try.prog 19 #[.slice A n c] w fun e w' => e = .returned (.bool (igoes L)) ∧ Below w.heap.size w w' := by
  have hui := Try.underlying49
  have huc := Try.underlying30
  have HN := Lib.hid h.len
  obtain ⟨R, hR⟩ : ∃ R, R = igoes L := ⟨_, rfl⟩
  rw [← hR]
  have HF0 := Lib.hid (fun k (hk : k < L.length) (e : imay L[k] = false) => show R = false by rw [hR]; exact i_no hk e)
  have HF1 := Lib.hid (fun k (hk : k < L.length) (e : ¬ (1 ≤ rkey L[k] ∧ rkey L[k] < 1073741824 ∧ keyAt L k < rkey L[k])) => show R = false by rw [hR]; exact i_key hk e)
  have HALL := Lib.hid (fun (e : iTo L L.length = true) => show R = true by rw [hR]; exact e)
  have HCK := Lib.hid (fun k (hk : k < L.length) wx => ccheck_any L[k].cd.1 L[k].cd.2.1 L[k].cd.2.2.1 L[k].cd.2.2.2 wx (hok _ (List.getElem_mem hk)))
  have HEQ := Lib.hid (fun k (hk : k < L.length) wx => eq_ccl L[k].cd (L[k].cd.1, 0, 0, zeros) (hok _ (List.getElem_mem hk)) rfl wx)
  have HOKK := Lib.hid (fun k (hk : k < L.length) => hok _ (List.getElem_mem hk))
  have HCE : Hid (∀ k, k < L.length → ∃ b o, A = some ⟨b, o, none⟩ ∧ ∀ W, Below w.heap.size w W → ∀ k (hk : k < L.length), W.cell? ⟨b, o + k * 28, none⟩ = some (.int .i64 L[k].kd) ∧ W.cell? ⟨b, o + k * 28 + 1, none⟩ = some (.int .i64 (rkey L[k])) ∧
      W.rangeAt b (o + k * 28) (icl L[k]) ∧ W.rangeAt b (o + k * 28 + 1) (ccl L[k].cd)) := Lib.hid (fun k hk => by
    obtain ⟨b, o, e, _, hc⟩ := item_cells h hok (by omega)
    exact ⟨b, o, e, fun W hW k hk => hc W hW k hk⟩)
  obtain ⟨Z, hZ⟩ : ∃ Z, Z = ccl zcd := ⟨_, rfl⟩
  have HZL := Lib.hid (show Z.length = 27 by rw [hZ]; rfl)
  have HZZ : Hid (Z.toArray = #[Value.int .i64 0, .int .i64 0, .int .u32 0, .int .i64 0, .int .i64 0, .string { data := #[] }, .int .i64 0, .int .i64 0, .string { data := #[] }, .int .i64 0, .int .i64 0, .string { data := #[] }, .int .i64 0, .int .i64 0, .string { data := #[] }, .int .i64 0, .int .i64 0, .string { data := #[] }, .int .i64 0, .int .i64 0, .string { data := #[] }, .int .i64 0, .int .i64 0, .string { data := #[] }, .int .i64 0, .int .i64 0, .string { data := #[] }]) := Lib.hid (by rw [hZ]; exact zc27i)
  obtain ⟨Y, hY⟩ : ∃ Y, Y = icl ⟨0, zcd⟩ := ⟨_, rfl⟩
  have HYL := Lib.hid (show Y.length = 28 by rw [hY]; rfl)
  have HYY : Hid (Y.toArray = #[Value.int .i64 0, .int .i64 0, .int .i64 0, .int .u32 0, .int .i64 0, .int .i64 0, .string { data := #[] }, .int .i64 0, .int .i64 0, .string { data := #[] }, .int .i64 0, .int .i64 0, .string { data := #[] }, .int .i64 0, .int .i64 0, .string { data := #[] }, .int .i64 0, .int .i64 0, .string { data := #[] }, .int .i64 0, .int .i64 0, .string { data := #[] }, .int .i64 0, .int .i64 0, .string { data := #[] }, .int .i64 0, .int .i64 0, .string { data := #[] }]) := Lib.hid (by rw [hY]; exact zc28i)
  clear hY
  clear hR h hok hZ
  go_enter Try.func19, Try.ntmps19
  go_wp2_with fail
  go_loopw [3, 9] (fun la i wr => ∃ k : Nat, k ≤ n ∧ la = .int .i64 (keyAt L k) ∧ i = .int .i64 (k : Int) ∧ Hid (iTo L k = true) ∧ Hid (Below w.heap.size w wr)) (fun _ i _ => n - (iOf i).toNat)
  case atStart => exact ⟨0, by omega, rfl, rfl, Lib.hid rfl, Lib.hid (Below.refl _ _)⟩
  case round =>
    obtain ⟨k, hk, rfl, rfl, HK, HB⟩ := hrel
    by_cases hlt : k < n
    · have d0 : decide ((k : Int) < (n : Int)) = true := decide_eq_true (by omega)
      have hkl : k < L.length := by rw [HN.out]; exact hlt
      obtain ⟨b, o, rfl, hcc⟩ := HCE.out k hkl
      have HCC := Lib.hid hcc
      have HNX := Lib.hid (i_next hkl HK.out)
      have HNM := Lib.hid (HF0.out k hkl)
      have HNK := Lib.hid (HF1.out k hkl)
      have HKL := Lib.hid (key_low (Nat.le_of_lt hkl) HK.out)
      have HKS := Lib.hid (key_succ hkl)
      have HOK := Lib.hid (HOKK.out k hkl)
      have HCL := Lib.hid (ccl_len HOK.out)
      have HC1 := Lib.hid (ccl_one L[k].cd)
      have HE := Lib.hid (HEQ.out k hkl)
      have HC := Lib.hid (HCK.out k hkl)
      have HM13 := Lib.hid (imay_13 (x := L[k]))
      have HM2 := Lib.hid (imay_2 (x := L[k]))
      have HME := Lib.hid (imay_else (x := L[k]))
      have HCID : Hid (∀ W g, Blk W g (ccl L[k].cd) → W.cell? ⟨g, 0, none⟩ = some (.int .i64 (rkey L[k]))) := Lib.hid (fun W g hW => hW.cell (j := 0) rfl)
      have hrc := (HCC.out wr HB.out k hkl).2.2.2
      have HIL := Lib.hid (icl_len HOK.out)
      have HI1 := Lib.hid (icl_one L[k])
      have hri := (HCC.out wr HB.out k hkl).2.2.1
      have HIC : Hid (∀ W g, Blk W g (icl L[k]) → W.cell? ⟨g, 0, none⟩ = some (.int .i64 L[k].kd) ∧ W.rangeAt g 1 (ccl L[k].cd)) := Lib.hid (fun W g hW => ⟨hW.cell (j := 0) rfl, hW.range 1 (ccl L[k].cd) (icl_drop HOK.out)⟩)
      obtain ⟨II, hII⟩ : ∃ II, II = icl L[k] := ⟨_, rfl⟩
      rw [← hII] at hri HIL HI1 HIC
      clear hII
      obtain ⟨CC, hCC⟩ : ∃ CC, CC = ccl L[k].cd := ⟨_, rfl⟩
      have HC' : Hid (∀ wx, Calls Try.prog 34 #[.agg CC.toArray] wx fun e w' => e = .returned (.bool (ckc L[k].cd)) ∧ Below wx.heap.size wx w') := Lib.hid (fun wx => by rw [hCC]; exact HC.out wx)
      rw [← hCC] at hrc HCL HC1 HE HCID HIC
      obtain ⟨CD, hCD⟩ : ∃ CD, CD = ccl (rkey L[k], 0, 0, zeros) := ⟨_, rfl⟩
      have HE' : Hid (∀ wx : World, (Op.equalIn 10000 30 (.agg CC.toArray) (.agg CD.toArray)).run Try.prog wx = .ok (decide (L[k].cd = (rkey L[k], 0, 0, zeros))) wx) := Lib.hid (fun wx => by rw [hCD]; exact HE.out wx)
      have HM2' : Hid (L[k].kd = 2 → imay L[k] = decide (L[k].cd = (rkey L[k], 0, 0, zeros))) := Lib.hid HM2.out
      have HCB : Hid (∀ (a : Act) (op : Oper) (y : Operand), op.op = .build 30 #[(0, y)] → a.eval y = .int .i64 (rkey L[k]) → ∀ wx, (execOp a.eval op).run Try.prog wx = .ok (.value (.agg CD.toArray)) wx) := Lib.hid (fun a op y ho hy wx => by rw [hCD]; exact exec_cid y ho _ hy wx)
      generalize imay L[k] = im at HNX HNM HM13 HM2' HME
      generalize ckc L[k].cd = ck at HM13 HC'
      generalize decide (L[k].cd = (rkey L[k], 0, 0, zeros)) = eq at HE' HM2'
      generalize rkey L[k] = x at HNX HNK HKS HCID HCB
      generalize keyAt L k = y at HNX HNK HKL ⊢
      generalize L[k].kd = kd at HM13 HM2' HME HIC
      clear hcc hCC hCD HCC HF0 HF1 HALL HCK HEQ HOKK HCE HK HC HE HM2 HOK
      have B1 := Blk.new wr Y 49
      have hb1 := (Below.refl wr.heap.size wr).alloc (Nat.le_refl _) (.cells Y.toArray 49)
      have TH1 := B1.there 0 28 (by rw [HYL.out]; omega)
      obtain ⟨W1, hW1⟩ : ∃ W1, W1 = (wr.alloc (.cells Y.toArray 49)).setCells wr.heap.size 0 II := ⟨_, rfl⟩
      have BI : Blk W1 wr.heap.size II := by rw [hW1]; exact B1.whole (by rw [HYL.out, HIL.out])
      have hb2 : Below wr.heap.size wr W1 := by rw [hW1]; exact below_sets (Nat.le_refl _) _ _ hb1
      have hrc1 := (HIC.out W1 _ BI).2
      have B2 := Blk.new W1 Z 30
      have hb3 := (Below.refl W1.heap.size W1).alloc (Nat.le_refl _) (.cells Z.toArray 30)
      have TH2 := B2.there 0 27 (by rw [HZL.out]; omega)
      obtain ⟨W2, hW2⟩ : ∃ W2, W2 = (W1.alloc (.cells Z.toArray 30)).setCells W1.heap.size 0 CC := ⟨_, rfl⟩
      have BC : Blk W2 W1.heap.size CC := by rw [hW2]; exact B2.whole (by rw [HZL.out, HCL.out])
      have hb4 : Below W1.heap.size W1 W2 := by rw [hW2]; exact below_sets (Nat.le_refl _) _ _ hb3
      have k0 := (HIC.out W2 _ (BI.later hb4)).1
      have x0 := HCID.out W2 _ BC
      have RG := BC.wholeC
      have HB1 := Lib.hid (HB.out.trans (hb2.mono HB.out.size))
      have HB2 := Lib.hid (HB1.out.trans (hb4.mono HB1.out.size))
      have HBC := Lib.hid BC
      have HW1 := Lib.hid hW1
      have HW2 := Lib.hid hW2
      rw [HYY.out] at TH1
      rw [HZZ.out] at TH2
      clear B1 hb1 hW1 BI hb2 B2 hb3 hW2 BC hb4 hrc HIC
      by_cases hk1 : kd = 1
      · have f1 : decide (kd = 1) = true := decide_eq_true hk1
        have f1' : (kd == 1) = true := by simpa using f1
        have HIM0 := Lib.hid (HM13.out (.inl hk1))
        clear hk1
        go_wp2_with (first
          | (refine wpList_load_mid rfl 49 (.tmp 11) rfl b (o + k * 28) rfl II _ hri hui rfl (by rw [HIL.out]; exact info_item) ?_
             simp only [Act.put, List.setIfInBounds_toArray, List.set_cons_zero, List.set_cons_succ])
          | (refine wpList_store_mid rfl 49 (.tmp 5) (.tmp 12) rfl wr.heap.size 0 II.toArray rfl rfl (by simpa [HIL.out] using TH1) (by simpa [HIL.out] using info_item) (all_oneCell_toArray HI1.out) ?_
             rw [← HYY.out, ← HW1.out]
             clear TH1 hri)
          | (refine wpList_load_mid rfl 30 (.tmp 13) rfl wr.heap.size 1 rfl CC _ hrc1 huc rfl (by rw [HCL.out]; exact info_card) ?_
             simp only [Act.put, List.setIfInBounds_toArray, List.set_cons_zero, List.set_cons_succ])
          | (refine wpList_store_mid rfl 30 (.tmp 6) (.tmp 14) rfl W1.heap.size 0 CC.toArray rfl rfl (by simpa [HCL.out] using TH2) (by simpa [HCL.out] using info_card) (all_oneCell_toArray HC1.out) ?_
             rw [← HZZ.out, ← HW2.out]
             clear TH2 hrc1)
          | (refine wpList_load_mid rfl 30 (.tmp 6) rfl W1.heap.size 0 rfl CC _ RG huc rfl (by rw [HCL.out]; exact info_card) ?_
             simp only [Act.put, List.setIfInBounds_toArray, List.set_cons_zero, List.set_cons_succ])
          | fail)
        refine (HC'.out _).mono ?_
        rintro e w3 ⟨rfl, hb5⟩
        have HB3 := Lib.hid (HB2.out.trans (hb5.mono HB2.out.size))
        have x1 := HCID.out w3 _ (HBC.out.later hb5)
        clear hb5 x0 RG k0 HC'
        cases ck with
        | false =>
          have HR : Hid (R = false) := Lib.hid (HNM.out HIM0.out)
          go_wp2_with fail
          go_ret
          exact ⟨by rw [HR.out]; rfl, HB3.out⟩
        | true =>
          have HIM := HIM0
          by_cases z1 : x ≤ y
          · have e1 : decide (x ≤ y) = true := decide_eq_true z1
            have HR : Hid (R = false) := Lib.hid (HNK.out (by omega))
            clear z1
            go_wp2_with fail
            go_ret
            exact ⟨by rw [HR.out]; rfl, HB3.out⟩
          · have e1 : decide (x ≤ y) = false := decide_eq_false z1
            by_cases z2 : 1073741824 ≤ x
            · have e2 : decide (1073741824 ≤ x) = true := decide_eq_true z2
              have HR : Hid (R = false) := Lib.hid (HNK.out (by omega))
              clear z1 z2
              go_wp2_with fail
              go_ret
              exact ⟨by rw [HR.out]; rfl, HB3.out⟩
            · have e2 : decide (1073741824 ≤ x) = false := decide_eq_false z2
              have HG := Lib.hid (HNX.out HIM.out (by have := HKL.out; omega))
              clear z1 z2
              go_wp2_with fail
              go_roundw
              case rel => exact ⟨k + 1, by omega, by rw [HKS.out], by go_num, HG, HB3⟩
              case measure => simp [iOf]; omega
      · by_cases hk3 : kd = 3
        · have f1 : decide (kd = 1) = false := decide_eq_false hk1
          have f1' : (kd == 1) = false := by simpa using f1
          have f3 : decide (kd = 3) = true := decide_eq_true hk3
          have f3' : (kd == 3) = true := by simpa using f3
          have HIM0 := Lib.hid (HM13.out (.inr hk3))
          clear hk1 hk3
          go_wp2_with (first
            | (refine wpList_load_mid rfl 49 (.tmp 11) rfl b (o + k * 28) rfl II _ hri hui rfl (by rw [HIL.out]; exact info_item) ?_
               simp only [Act.put, List.setIfInBounds_toArray, List.set_cons_zero, List.set_cons_succ])
            | (refine wpList_store_mid rfl 49 (.tmp 5) (.tmp 12) rfl wr.heap.size 0 II.toArray rfl rfl (by simpa [HIL.out] using TH1) (by simpa [HIL.out] using info_item) (all_oneCell_toArray HI1.out) ?_
               rw [← HYY.out, ← HW1.out]
               clear TH1 hri)
            | (refine wpList_load_mid rfl 30 (.tmp 13) rfl wr.heap.size 1 rfl CC _ hrc1 huc rfl (by rw [HCL.out]; exact info_card) ?_
               simp only [Act.put, List.setIfInBounds_toArray, List.set_cons_zero, List.set_cons_succ])
            | (refine wpList_store_mid rfl 30 (.tmp 6) (.tmp 14) rfl W1.heap.size 0 CC.toArray rfl rfl (by simpa [HCL.out] using TH2) (by simpa [HCL.out] using info_card) (all_oneCell_toArray HC1.out) ?_
               rw [← HZZ.out, ← HW2.out]
               clear TH2 hrc1)
            | (refine wpList_load_mid rfl 30 (.tmp 6) rfl W1.heap.size 0 rfl CC _ RG huc rfl (by rw [HCL.out]; exact info_card) ?_
               simp only [Act.put, List.setIfInBounds_toArray, List.set_cons_zero, List.set_cons_succ])
            | fail)
          refine (HC'.out _).mono ?_
          rintro e w3 ⟨rfl, hb5⟩
          have HB3 := Lib.hid (HB2.out.trans (hb5.mono HB2.out.size))
          have x1 := HCID.out w3 _ (HBC.out.later hb5)
          clear hb5 x0 RG k0 HC'
          cases ck with
          | false =>
            have HR : Hid (R = false) := Lib.hid (HNM.out HIM0.out)
            go_wp2_with fail
            go_ret
            exact ⟨by rw [HR.out]; rfl, HB3.out⟩
          | true =>
            have HIM := HIM0
            by_cases z1 : x ≤ y
            · have e1 : decide (x ≤ y) = true := decide_eq_true z1
              have HR : Hid (R = false) := Lib.hid (HNK.out (by omega))
              clear z1
              go_wp2_with fail
              go_ret
              exact ⟨by rw [HR.out]; rfl, HB3.out⟩
            · have e1 : decide (x ≤ y) = false := decide_eq_false z1
              by_cases z2 : 1073741824 ≤ x
              · have e2 : decide (1073741824 ≤ x) = true := decide_eq_true z2
                have HR : Hid (R = false) := Lib.hid (HNK.out (by omega))
                clear z1 z2
                go_wp2_with fail
                go_ret
                exact ⟨by rw [HR.out]; rfl, HB3.out⟩
              · have e2 : decide (1073741824 ≤ x) = false := decide_eq_false z2
                have HG := Lib.hid (HNX.out HIM.out (by have := HKL.out; omega))
                clear z1 z2
                go_wp2_with fail
                go_roundw
                case rel => exact ⟨k + 1, by omega, by rw [HKS.out], by go_num, HG, HB3⟩
                case measure => simp [iOf]; omega
        · by_cases hk2 : kd = 2
          · have f1 : decide (kd = 1) = false := decide_eq_false hk1
            have f1' : (kd == 1) = false := by simpa using f1
            have f3 : decide (kd = 3) = false := decide_eq_false hk3
            have f3' : (kd == 3) = false := by simpa using f3
            have f2 : decide (kd = 2) = true := decide_eq_true hk2
            have f2' : (kd == 2) = true := by simpa using f2
            have HIM0 := Lib.hid (HM2'.out hk2)
            clear hk1 hk2 hk3
            cases eq with
            | false =>
              have HR : Hid (R = false) := Lib.hid (HNM.out HIM0.out)
              go_wp2_with (first
                | (refine wpList_load_mid rfl 49 (.tmp 11) rfl b (o + k * 28) rfl II _ hri hui rfl (by rw [HIL.out]; exact info_item) ?_
                   simp only [Act.put, List.setIfInBounds_toArray, List.set_cons_zero, List.set_cons_succ])
                | (refine wpList_store_mid rfl 49 (.tmp 5) (.tmp 12) rfl wr.heap.size 0 II.toArray rfl rfl (by simpa [HIL.out] using TH1) (by simpa [HIL.out] using info_item) (all_oneCell_toArray HI1.out) ?_
                   rw [← HYY.out, ← HW1.out]
                   clear TH1 hri)
                | (refine wpList_load_mid rfl 30 (.tmp 13) rfl wr.heap.size 1 rfl CC _ hrc1 huc rfl (by rw [HCL.out]; exact info_card) ?_
                   simp only [Act.put, List.setIfInBounds_toArray, List.set_cons_zero, List.set_cons_succ])
                | (refine wpList_store_mid rfl 30 (.tmp 6) (.tmp 14) rfl W1.heap.size 0 CC.toArray rfl rfl (by simpa [HCL.out] using TH2) (by simpa [HCL.out] using info_card) (all_oneCell_toArray HC1.out) ?_
                   rw [← HZZ.out, ← HW2.out]
                   clear TH2 hrc1)
                | (refine wpList_load_mid rfl 30 (.tmp 6) rfl W1.heap.size 0 rfl CC _ RG huc rfl (by rw [HCL.out]; exact info_card) ?_
                   simp only [Act.put, List.setIfInBounds_toArray, List.set_cons_zero, List.set_cons_succ])
                | (refine wpList_exec (by rfl) (.agg CD.toArray) (HCB.out _ _ (.tmp 27) rfl rfl _) ?_
                   simp only [Act.put, List.setIfInBounds_toArray, List.set_cons_zero, List.set_cons_succ])
                | (refine wpList_exec (by rfl) (.bool (!false)) (exec_neq 30 _ (.tmp 25) (.tmp 28) rfl _ _ rfl rfl guard_card false (HE'.out _)) ?_
                   simp only [Act.put, List.setIfInBounds_toArray, List.set_cons_zero, List.set_cons_succ]
                   simp only [Bool.not_true, Bool.not_false])
                | fail)
              go_ret
              exact ⟨by rw [HR.out]; rfl, HB2.out⟩
            | true =>
              have HIM := HIM0
              by_cases z1 : x ≤ y
              · have e1 : decide (x ≤ y) = true := decide_eq_true z1
                have HR : Hid (R = false) := Lib.hid (HNK.out (by omega))
                clear z1
                go_wp2_with (first
                  | (refine wpList_load_mid rfl 49 (.tmp 11) rfl b (o + k * 28) rfl II _ hri hui rfl (by rw [HIL.out]; exact info_item) ?_
                     simp only [Act.put, List.setIfInBounds_toArray, List.set_cons_zero, List.set_cons_succ])
                  | (refine wpList_store_mid rfl 49 (.tmp 5) (.tmp 12) rfl wr.heap.size 0 II.toArray rfl rfl (by simpa [HIL.out] using TH1) (by simpa [HIL.out] using info_item) (all_oneCell_toArray HI1.out) ?_
                     rw [← HYY.out, ← HW1.out]
                     clear TH1 hri)
                  | (refine wpList_load_mid rfl 30 (.tmp 13) rfl wr.heap.size 1 rfl CC _ hrc1 huc rfl (by rw [HCL.out]; exact info_card) ?_
                     simp only [Act.put, List.setIfInBounds_toArray, List.set_cons_zero, List.set_cons_succ])
                  | (refine wpList_store_mid rfl 30 (.tmp 6) (.tmp 14) rfl W1.heap.size 0 CC.toArray rfl rfl (by simpa [HCL.out] using TH2) (by simpa [HCL.out] using info_card) (all_oneCell_toArray HC1.out) ?_
                     rw [← HZZ.out, ← HW2.out]
                     clear TH2 hrc1)
                  | (refine wpList_load_mid rfl 30 (.tmp 6) rfl W1.heap.size 0 rfl CC _ RG huc rfl (by rw [HCL.out]; exact info_card) ?_
                     simp only [Act.put, List.setIfInBounds_toArray, List.set_cons_zero, List.set_cons_succ])
                  | (refine wpList_exec (by rfl) (.agg CD.toArray) (HCB.out _ _ (.tmp 27) rfl rfl _) ?_
                     simp only [Act.put, List.setIfInBounds_toArray, List.set_cons_zero, List.set_cons_succ])
                  | (refine wpList_exec (by rfl) (.bool (!true)) (exec_neq 30 _ (.tmp 25) (.tmp 28) rfl _ _ rfl rfl guard_card true (HE'.out _)) ?_
                     simp only [Act.put, List.setIfInBounds_toArray, List.set_cons_zero, List.set_cons_succ]
                     simp only [Bool.not_true, Bool.not_false])
                  | fail)
                go_ret
                exact ⟨by rw [HR.out]; rfl, HB2.out⟩
              · have e1 : decide (x ≤ y) = false := decide_eq_false z1
                by_cases z2 : 1073741824 ≤ x
                · have e2 : decide (1073741824 ≤ x) = true := decide_eq_true z2
                  have HR : Hid (R = false) := Lib.hid (HNK.out (by omega))
                  clear z1 z2
                  go_wp2_with (first
                    | (refine wpList_load_mid rfl 49 (.tmp 11) rfl b (o + k * 28) rfl II _ hri hui rfl (by rw [HIL.out]; exact info_item) ?_
                       simp only [Act.put, List.setIfInBounds_toArray, List.set_cons_zero, List.set_cons_succ])
                    | (refine wpList_store_mid rfl 49 (.tmp 5) (.tmp 12) rfl wr.heap.size 0 II.toArray rfl rfl (by simpa [HIL.out] using TH1) (by simpa [HIL.out] using info_item) (all_oneCell_toArray HI1.out) ?_
                       rw [← HYY.out, ← HW1.out]
                       clear TH1 hri)
                    | (refine wpList_load_mid rfl 30 (.tmp 13) rfl wr.heap.size 1 rfl CC _ hrc1 huc rfl (by rw [HCL.out]; exact info_card) ?_
                       simp only [Act.put, List.setIfInBounds_toArray, List.set_cons_zero, List.set_cons_succ])
                    | (refine wpList_store_mid rfl 30 (.tmp 6) (.tmp 14) rfl W1.heap.size 0 CC.toArray rfl rfl (by simpa [HCL.out] using TH2) (by simpa [HCL.out] using info_card) (all_oneCell_toArray HC1.out) ?_
                       rw [← HZZ.out, ← HW2.out]
                       clear TH2 hrc1)
                    | (refine wpList_load_mid rfl 30 (.tmp 6) rfl W1.heap.size 0 rfl CC _ RG huc rfl (by rw [HCL.out]; exact info_card) ?_
                       simp only [Act.put, List.setIfInBounds_toArray, List.set_cons_zero, List.set_cons_succ])
                    | (refine wpList_exec (by rfl) (.agg CD.toArray) (HCB.out _ _ (.tmp 27) rfl rfl _) ?_
                       simp only [Act.put, List.setIfInBounds_toArray, List.set_cons_zero, List.set_cons_succ])
                    | (refine wpList_exec (by rfl) (.bool (!true)) (exec_neq 30 _ (.tmp 25) (.tmp 28) rfl _ _ rfl rfl guard_card true (HE'.out _)) ?_
                       simp only [Act.put, List.setIfInBounds_toArray, List.set_cons_zero, List.set_cons_succ]
                       simp only [Bool.not_true, Bool.not_false])
                    | fail)
                  go_ret
                  exact ⟨by rw [HR.out]; rfl, HB2.out⟩
                · have e2 : decide (1073741824 ≤ x) = false := decide_eq_false z2
                  have HG := Lib.hid (HNX.out HIM.out (by have := HKL.out; omega))
                  clear z1 z2
                  go_wp2_with (first
                    | (refine wpList_load_mid rfl 49 (.tmp 11) rfl b (o + k * 28) rfl II _ hri hui rfl (by rw [HIL.out]; exact info_item) ?_
                       simp only [Act.put, List.setIfInBounds_toArray, List.set_cons_zero, List.set_cons_succ])
                    | (refine wpList_store_mid rfl 49 (.tmp 5) (.tmp 12) rfl wr.heap.size 0 II.toArray rfl rfl (by simpa [HIL.out] using TH1) (by simpa [HIL.out] using info_item) (all_oneCell_toArray HI1.out) ?_
                       rw [← HYY.out, ← HW1.out]
                       clear TH1 hri)
                    | (refine wpList_load_mid rfl 30 (.tmp 13) rfl wr.heap.size 1 rfl CC _ hrc1 huc rfl (by rw [HCL.out]; exact info_card) ?_
                       simp only [Act.put, List.setIfInBounds_toArray, List.set_cons_zero, List.set_cons_succ])
                    | (refine wpList_store_mid rfl 30 (.tmp 6) (.tmp 14) rfl W1.heap.size 0 CC.toArray rfl rfl (by simpa [HCL.out] using TH2) (by simpa [HCL.out] using info_card) (all_oneCell_toArray HC1.out) ?_
                       rw [← HZZ.out, ← HW2.out]
                       clear TH2 hrc1)
                    | (refine wpList_load_mid rfl 30 (.tmp 6) rfl W1.heap.size 0 rfl CC _ RG huc rfl (by rw [HCL.out]; exact info_card) ?_
                       simp only [Act.put, List.setIfInBounds_toArray, List.set_cons_zero, List.set_cons_succ])
                    | (refine wpList_exec (by rfl) (.agg CD.toArray) (HCB.out _ _ (.tmp 27) rfl rfl _) ?_
                       simp only [Act.put, List.setIfInBounds_toArray, List.set_cons_zero, List.set_cons_succ])
                    | (refine wpList_exec (by rfl) (.bool (!true)) (exec_neq 30 _ (.tmp 25) (.tmp 28) rfl _ _ rfl rfl guard_card true (HE'.out _)) ?_
                       simp only [Act.put, List.setIfInBounds_toArray, List.set_cons_zero, List.set_cons_succ]
                       simp only [Bool.not_true, Bool.not_false])
                    | fail)
                  go_roundw
                  case rel => exact ⟨k + 1, by omega, by rw [HKS.out], by go_num, HG, HB2⟩
                  case measure => simp [iOf]; omega
          · have f1 : decide (kd = 1) = false := decide_eq_false hk1
            have f1' : (kd == 1) = false := by simpa using f1
            have f3 : decide (kd = 3) = false := decide_eq_false hk3
            have f3' : (kd == 3) = false := by simpa using f3
            have f2 : decide (kd = 2) = false := decide_eq_false hk2
            have f2' : (kd == 2) = false := by simpa using f2
            have HR : Hid (R = false) := Lib.hid (HNM.out (HME.out hk1 hk2 hk3))
            clear hk1 hk2 hk3
            go_wp2_with (first
              | (refine wpList_load_mid rfl 49 (.tmp 11) rfl b (o + k * 28) rfl II _ hri hui rfl (by rw [HIL.out]; exact info_item) ?_
                 simp only [Act.put, List.setIfInBounds_toArray, List.set_cons_zero, List.set_cons_succ])
              | (refine wpList_store_mid rfl 49 (.tmp 5) (.tmp 12) rfl wr.heap.size 0 II.toArray rfl rfl (by simpa [HIL.out] using TH1) (by simpa [HIL.out] using info_item) (all_oneCell_toArray HI1.out) ?_
                 rw [← HYY.out, ← HW1.out]
                 clear TH1 hri)
              | (refine wpList_load_mid rfl 30 (.tmp 13) rfl wr.heap.size 1 rfl CC _ hrc1 huc rfl (by rw [HCL.out]; exact info_card) ?_
                 simp only [Act.put, List.setIfInBounds_toArray, List.set_cons_zero, List.set_cons_succ])
              | (refine wpList_store_mid rfl 30 (.tmp 6) (.tmp 14) rfl W1.heap.size 0 CC.toArray rfl rfl (by simpa [HCL.out] using TH2) (by simpa [HCL.out] using info_card) (all_oneCell_toArray HC1.out) ?_
                 rw [← HZZ.out, ← HW2.out]
                 clear TH2 hrc1)
              | fail)
            go_ret
            exact ⟨by rw [HR.out]; rfl, HB2.out⟩
    · obtain rfl : k = n := by omega
      have HR := Lib.hid (HALL.out (by rw [HN.out]; exact HK.out))
      clear HF0 HF1 HALL HCK HEQ HOKK HCE
      go_wp2_with fail
      go_ret
      exact ⟨by rw [HR.out]; rfl, HB.out⟩
end Go.Proofs.Ytepefocpeeihdaa
