/- Cards: what a patch writes to a card, by the document: what it returns. -/
import Derived.Test.YtgkpbkedaddekaaO3
import Derived.Test.YtgkpbkedaddekaaO2
import Derived.Lib.SmallJoins
import Derived.Deep.Strs
import Derived.Test.YtgkpbkedaddekaaO1
import Derived.Laws.StructEq
import Derived.Deep.RegionLaw
import Derived.ArgAppend
import Derived.StillTail
namespace Go.Proofs.Ytgkpbkedaddekaa
set_option linter.unusedVariables false
open Go Go.RowKit BitM

set_option maxRecDepth 100000 in
set_option maxHeartbeats 3200000 in
theorem rmerge_lo (id ver lab pl : Int) (x : BitVec 32) (C P : List V3) (w : World) (hC : C.length = 8) (hP : P.length = 8) (h0 : -9223372036854775808 ≤ ver) (h1 : ver ≤ 1099511627775) :
    Calls Try.prog 21 #[.agg (ccells id ver lab C).toArray, .agg (pcells (x.toNat : Int) pl P).toArray] w fun e w' =>
      e = .returned (.agg (ccells id (ver + 1) (if has x 8 then pl else lab) (mix (fun i => has x (i : Int)) P C)).toArray) ∧ Below w.heap.size w w' := by
  have HX := Lib.hid (fun (k : Int) (wx : World) => rhas_any x k wx)
  have HLB := Lib.hid (fun wx : World => rlabels_any x wx)
  obtain ⟨nl, hnl⟩ : ∃ nl : Int, nl = (if has x 8 then pl else lab) := ⟨_, rfl⟩
  obtain ⟨nf, hnf⟩ : ∃ nf, nf = mix (fun i => has x (i : Int)) P C := ⟨_, rfl⟩
  rw [← hnl, ← hnf]
  obtain ⟨R, hR⟩ : ∃ R, R = ccells id (ver + 1) nl nf := ⟨_, rfl⟩
  have hRl : R.length = 27 := by rw [hR, ccells_len _ _ _ (by rw [hnf, mix_len])]
  have hone : ∀ v ∈ R, v.oneCell' = true := by rw [hR]; exact ccells_one _ _ _ _
  rw [← hR]
  have HR0 := Lib.hid hR
  have HRL := Lib.hid hRl
  have HNL := Lib.hid hnl
  have HNF := Lib.hid hnf
  have HC := Lib.hid hC
  have HP := Lib.hid hP
  obtain ⟨cc, hcc⟩ : ∃ cc, cc = ccells id ver lab C := ⟨_, rfl⟩
  have hcl : cc.length = 27 := by rw [hcc]; exact ccells_len _ _ _ hC
  have B0 := Blk.new w cc 44
  rw [← hcc]
  have B1 := Blk.new (w.alloc (.cells cc.toArray 44)) (pcells (x.toNat : Int) pl P) 36
  obtain ⟨pa, hpa⟩ : ∃ pa, pa = (pcells (x.toNat : Int) pl P).toArray := ⟨_, rfl⟩
  rw [← hpa] at B1 ⊢
  have B2 := Blk.new ((w.alloc (.cells cc.toArray 44)).alloc (.cells pa 36)) (ccells 0 0 0 zeros) 44
  have B3 := Blk.new (((w.alloc (.cells cc.toArray 44)).alloc (.cells pa 36)).alloc (.cells (ccells 0 0 0 zeros).toArray 44)) (ccells 0 0 0 zeros) 44
  have hw0 := ((((Below.refl w.heap.size w).alloc (Nat.le_refl _) (.cells cc.toArray 44)).alloc (by simp) (.cells pa 36)).alloc (by simp; omega) (.cells (ccells 0 0 0 zeros).toArray 44)).alloc (by simp; omega) (.cells (ccells 0 0 0 zeros).toArray 44)
  have A0 := (B0.alloc (.cells pa 36)).alloc (.cells (ccells 0 0 0 zeros).toArray 44)
  have RG0 := A0.wholeC
  replace B0 := A0.alloc (.cells (ccells 0 0 0 zeros).toArray 44)
  replace B1 := (B1.alloc (.cells (ccells 0 0 0 zeros).toArray 44)).alloc (.cells (ccells 0 0 0 zeros).toArray 44)
  replace B2 := B2.alloc (.cells (ccells 0 0 0 zeros).toArray 44)
  have hs1 : (w.alloc (.cells cc.toArray 44)).heap.size = w.heap.size + 1 := by simp
  have hs2 : ((w.alloc (.cells cc.toArray 44)).alloc (.cells pa 36)).heap.size = w.heap.size + 2 := by simp
  have hs3 : (((w.alloc (.cells cc.toArray 44)).alloc (.cells pa 36)).alloc (.cells (ccells 0 0 0 zeros).toArray 44)).heap.size = w.heap.size + 3 := by simp
  rw [hs1] at B1
  rw [hs2] at B2
  rw [hs3] at B3
  generalize hW : ((((w.alloc (.cells cc.toArray 44)).alloc (.cells pa 36)).alloc (.cells (ccells 0 0 0 zeros).toArray 44)).alloc (.cells (ccells 0 0 0 zeros).toArray 44)) = W at *
  have C3 := B3.whole (ds := cc) (by rw [hcl, ccells_len 0 0 0 zeros_len])
  have C0 := Blk.setsOther (b := w.heap.size + 3) (g := w.heap.size) (by omega) cc 0 B0
  have C1 := Blk.setsOther (b := w.heap.size + 3) (g := w.heap.size + 1) (by omega) cc 0 B1
  have C2 := Blk.setsOther (b := w.heap.size + 3) (g := w.heap.size + 2) (by omega) cc 0 B2
  have CB := below_sets (B := w.heap.size) (b := w.heap.size + 3) (by omega) cc 0 hw0
  have TH := B3.there 0 27 (by rw [ccells_len 0 0 0 zeros_len]; omega)
  have hone0 : ∀ v ∈ cc, v.oneCell' = true := by rw [hcc]; exact ccells_one _ _ _ _
  have HCL := Lib.hid hcl
  obtain ⟨W2, hW2⟩ : ∃ W2, W2 = W.setCells (w.heap.size + 3) 0 cc := ⟨_, rfl⟩
  rw [← hW2] at C0 C1 C2 C3 CB
  rw [hcc] at C0 C3
  obtain ⟨q0, q1, q2⟩ := C0.card
  obtain ⟨p0, p1, p2⟩ := C3.card
  have fl := C3.frozen 1
  have E3 := C3.putVer (ver + 1)
  have E1 := C1.setOther (b := w.heap.size + 3) 1 (.int .i64 (ver + 1)) (by omega)
  have E2 := C2.setOther (b := w.heap.size + 3) 1 (.int .i64 (ver + 1)) (by omega)
  have EB := below_set (B := w.heap.size) (b := w.heap.size + 3) (by omega) CB 1 (.int .i64 (ver + 1))
  obtain ⟨m0, m1⟩ := E1.patch
  rw [hW2] at q1 p1 fl m0
  rw [zc27] at hW RG0
  have HW := Lib.hid hW
  have HW2 := Lib.hid hW2
  rw [← hW] at TH q1 p1 fl m0
  have HE1 := Lib.hid E1
  have HE2 := Lib.hid E2
  have HE3 := Lib.hid E3
  have HEB := Lib.hid EB
  have hu := Try.underlying44
  clear hnl hnf hR hRl hcc hcl hpa hs1 hs2 hs3 hW hW2 hw0 A0 B0 B1 B2 B3 C0 C1 C2 C3 CB E1 E2 E3 EB hC hP q0 q2 p0 p2 m1
  go_enter Try.func21, Try.ntmps21
  go_wp2_with (first
    | (refine wpList_load_mid rfl 44 (.tmp 2) rfl w.heap.size 0 rfl cc _ RG0 hu rfl (by rw [HCL.out]; exact info_card) ?_)
    | (refine wpList_store_mid rfl 44 (.tmp 5) (.tmp 7) rfl (w.heap.size + 3) 0 cc.toArray rfl rfl (by simpa [HCL.out] using TH) (by simpa [HCL.out] using info_card) (all_oneCell_toArray hone0) ?_))
  rw [HW.out, ← HW2.out]
  clear q1 p1 fl m0 RG0 TH
  refine (HLB.out _).mono ?_
  rintro e w' ⟨rfl, rfl⟩
  have C1 := HE1.out
  have C2 := HE2.out
  have C3 := HE3.out
  have hbw := HEB.out
  clear HE1 HE2 HE3 HEB HW HW2
  cases h8 : has x 8 with
  | true =>
    have HR : Hid (R = ccells id (ver + 1) pl nf) := Lib.hid (by rw [HR0.out, HNL.out, h8]; rfl)
    clear h8 HR0
    obtain ⟨q0, q1⟩ := C1.patch
    obtain ⟨p0, p1, p2⟩ := C3.card
    have fl := C3.frozen 2
    have E3 := C3.putLab pl
    have E1 := C1.setOther (b := w.heap.size + 3) 2 (.int .u32 pl) (by omega)
    have E2 := C2.setOther (b := w.heap.size + 3) 2 (.int .u32 pl) (by omega)
    have EB := below_set (B := w.heap.size) (b := w.heap.size + 3) (by omega) hbw 2 (.int .u32 pl)
    clear C1 C2 C3 hbw
    go_wp2_with fail
    clear q0 q1 p0 p1 p2 fl
    have C1 := E1
    have C2 := E2
    have C3 := E3
    have hbw := EB
    clear E1 E2 E3 EB
    go_loopw [6] (fun i wr => ∃ k : Nat, k ≤ 8 ∧ i = .int .i64 k ∧ Blk wr (w.heap.size + 1) (pcells (x.toNat : Int) pl P) ∧ Blk wr (w.heap.size + 2) (ccells 0 0 0 zeros) ∧ Blk wr (w.heap.size + 3) (ccells id (ver + 1) pl (mix (pk x k) P C)) ∧ Below w.heap.size w wr) (fun i _ => 8 - (intOf i).toNat)
    case atStart => exact ⟨0, by omega, rfl, C1, C2, by rw [pk_none x P C HC.out]; exact C3, hbw⟩
    case round =>
      obtain ⟨k, hk, rfl, D1, D2, D3, hbr⟩ := hrel
      clear C1 C2 C3 hbw
      by_cases hlt : k < 8
      · have d8 : (k : Int) < 8 := by omega
        have hks : k < P.length := by rw [HP.out]; exact hlt
        cases hx : has x (k : Int) with
        | false =>
          have H1 := Lib.hid (HX.out (k : Int) wr)
          rw [hx] at H1
          have hm : mix (pk x (k + 1)) P C = mix (pk x k) P C := mix_congr _ _ (fun i _ => pk_no x k i hx)
          have HMM := Lib.hid hm
          obtain ⟨r0, r1⟩ := D1.patch
          clear hx hm
          go_wp2_with fail
          refine H1.out.mono ?_
          rintro e w' ⟨rfl, rfl⟩
          clear r0 r1
          go_wp2_with fail
          go_roundw
          case rel => exact ⟨k + 1, by omega, by go_num, D1, D2, by rw [HMM.out]; exact D3, hbr⟩
          case measure => simp [intOf]; omega
        | true =>
          have H1 := Lib.hid (HX.out (k : Int) wr)
          rw [hx] at H1
          have hm : mix (pk x (k + 1)) P C = mix (fun i => pk x k i || i == k) P C := mix_congr _ _ (fun i _ => pk_yes x k i hx)
          obtain ⟨l0, l1, l2⟩ := Blk.field (o := 2) D1 k rfl hks
          obtain ⟨s0, s1, s2⟩ := Blk.field (o := 3) D3 k rfl (by rw [mix_len]; exact hlt)
          have f0 := D3.frozen (3 + k * 3)
          have f1 := D3.frozen (3 + k * 3 + 1)
          have f2 := D3.frozen (3 + k * 3 + 2)
          have ED := blk_field (w := wr) (g := w.heap.size + 3) (pk x k) P C [.int .i64 id, .int .i64 ((ver + 1)), .int .u32 pl] k hlt hks D3
          rw [← hm] at ED
          have E1 := Blk.setsOther (b := w.heap.size + 3) (g := w.heap.size + 1) (by omega) (vcells P[k]) (3 + k * 3) D1
          have E2 := Blk.setsOther (b := w.heap.size + 3) (g := w.heap.size + 2) (by omega) (vcells P[k]) (3 + k * 3) D2
          have EB := below_sets (B := w.heap.size) (b := w.heap.size + 3) (by omega) (vcells P[k]) (3 + k * 3) hbr
          obtain ⟨r0, r1⟩ := D1.patch
          obtain ⟨v, hv⟩ : ∃ v, v = P[k] := ⟨_, rfl⟩
          rw [← hv] at l0 l1 l2 ED EB E1 E2
          obtain ⟨v0, v1, v2⟩ := v
          simp only at l0 l1 l2
          have RR : Hid (Blk (wr.setCells (w.heap.size + 3) (3 + k * 3) (vcells (v0, v1, v2))) (w.heap.size + 3) (ccells (id) ((ver + 1)) (pl) (mix (pk x (k + 1)) P C)) ∧ Below w.heap.size w (wr.setCells (w.heap.size + 3) (3 + k * 3) (vcells (v0, v1, v2)))) := ⟨ED, EB⟩
          have HO1 := Lib.hid E1
          have HO2 := Lib.hid E2
          clear hx hm hv ED EB E1 E2
          go_wp2_with fail
          refine H1.out.mono ?_
          rintro e w' ⟨rfl, rfl⟩
          clear r0 r1
          go_wp2_with fail
          go_roundw
          case rel => exact ⟨k + 1, by omega, by go_num, HO1.out, HO2.out, RR.out.1, RR.out.2⟩
          case measure => simp [intOf]; omega
      · obtain rfl : k = 8 := by omega
        have hz : mix (pk x 8) P C = mix (fun i => has x (i : Int)) P C := pk_all x P C
        rw [hz, ← HNF.out, ← HR.out] at D3
        clear hz
        have RG := D3.wholeC
        have TH := D2.there 0 27 (by rw [ccells_len 0 0 0 zeros_len]; omega)
        have FIN := D2.whole (ds := R) (by rw [HRL.out, ccells_len 0 0 0 zeros_len])
        have FB := below_sets (B := w.heap.size) (b := w.heap.size + 2) (by omega) R 0 hbr
        clear D1 D2 D3 hbr
        go_wp2_with (first
          | (refine wpList_load_mid rfl 44 (.tmp 5) rfl (w.heap.size + 3) 0 rfl R _ RG hu rfl (by rw [HRL.out]; exact info_card) ?_)
          | (refine wpList_store_mid rfl 44 (.tmp 4) (.tmp 34) rfl (w.heap.size + 2) 0 R.toArray rfl rfl (by simpa [HRL.out] using TH) (by simpa [HRL.out] using info_card) (all_oneCell_toArray hone) ?_))
        exact bodyPost_ret (v := .agg R.toArray) (results_blk (q := 4) rfl _ _ (w.heap.size + 2) R _ rfl FIN hu rfl (by rw [HRL.out]; exact info_card)) rfl ⟨rfl, FB⟩
  | false =>
    have HR : Hid (R = ccells id (ver + 1) lab nf) := Lib.hid (by rw [HR0.out, HNL.out, h8]; rfl)
    clear h8 HR0
    go_wp2_with fail
    go_loopw [6] (fun i wr => ∃ k : Nat, k ≤ 8 ∧ i = .int .i64 k ∧ Blk wr (w.heap.size + 1) (pcells (x.toNat : Int) pl P) ∧ Blk wr (w.heap.size + 2) (ccells 0 0 0 zeros) ∧ Blk wr (w.heap.size + 3) (ccells id (ver + 1) lab (mix (pk x k) P C)) ∧ Below w.heap.size w wr) (fun i _ => 8 - (intOf i).toNat)
    case atStart => exact ⟨0, by omega, rfl, C1, C2, by rw [pk_none x P C HC.out]; exact C3, hbw⟩
    case round =>
      obtain ⟨k, hk, rfl, D1, D2, D3, hbr⟩ := hrel
      clear C1 C2 C3 hbw
      by_cases hlt : k < 8
      · have d8 : (k : Int) < 8 := by omega
        have hks : k < P.length := by rw [HP.out]; exact hlt
        cases hx : has x (k : Int) with
        | false =>
          have H1 := Lib.hid (HX.out (k : Int) wr)
          rw [hx] at H1
          have hm : mix (pk x (k + 1)) P C = mix (pk x k) P C := mix_congr _ _ (fun i _ => pk_no x k i hx)
          have HMM := Lib.hid hm
          obtain ⟨r0, r1⟩ := D1.patch
          clear hx hm
          go_wp2_with fail
          refine H1.out.mono ?_
          rintro e w' ⟨rfl, rfl⟩
          clear r0 r1
          go_wp2_with fail
          go_roundw
          case rel => exact ⟨k + 1, by omega, by go_num, D1, D2, by rw [HMM.out]; exact D3, hbr⟩
          case measure => simp [intOf]; omega
        | true =>
          have H1 := Lib.hid (HX.out (k : Int) wr)
          rw [hx] at H1
          have hm : mix (pk x (k + 1)) P C = mix (fun i => pk x k i || i == k) P C := mix_congr _ _ (fun i _ => pk_yes x k i hx)
          obtain ⟨l0, l1, l2⟩ := Blk.field (o := 2) D1 k rfl hks
          obtain ⟨s0, s1, s2⟩ := Blk.field (o := 3) D3 k rfl (by rw [mix_len]; exact hlt)
          have f0 := D3.frozen (3 + k * 3)
          have f1 := D3.frozen (3 + k * 3 + 1)
          have f2 := D3.frozen (3 + k * 3 + 2)
          have ED := blk_field (w := wr) (g := w.heap.size + 3) (pk x k) P C [.int .i64 id, .int .i64 ((ver + 1)), .int .u32 lab] k hlt hks D3
          rw [← hm] at ED
          have E1 := Blk.setsOther (b := w.heap.size + 3) (g := w.heap.size + 1) (by omega) (vcells P[k]) (3 + k * 3) D1
          have E2 := Blk.setsOther (b := w.heap.size + 3) (g := w.heap.size + 2) (by omega) (vcells P[k]) (3 + k * 3) D2
          have EB := below_sets (B := w.heap.size) (b := w.heap.size + 3) (by omega) (vcells P[k]) (3 + k * 3) hbr
          obtain ⟨r0, r1⟩ := D1.patch
          obtain ⟨v, hv⟩ : ∃ v, v = P[k] := ⟨_, rfl⟩
          rw [← hv] at l0 l1 l2 ED EB E1 E2
          obtain ⟨v0, v1, v2⟩ := v
          simp only at l0 l1 l2
          have RR : Hid (Blk (wr.setCells (w.heap.size + 3) (3 + k * 3) (vcells (v0, v1, v2))) (w.heap.size + 3) (ccells (id) ((ver + 1)) (lab) (mix (pk x (k + 1)) P C)) ∧ Below w.heap.size w (wr.setCells (w.heap.size + 3) (3 + k * 3) (vcells (v0, v1, v2)))) := ⟨ED, EB⟩
          have HO1 := Lib.hid E1
          have HO2 := Lib.hid E2
          clear hx hm hv ED EB E1 E2
          go_wp2_with fail
          refine H1.out.mono ?_
          rintro e w' ⟨rfl, rfl⟩
          clear r0 r1
          go_wp2_with fail
          go_roundw
          case rel => exact ⟨k + 1, by omega, by go_num, HO1.out, HO2.out, RR.out.1, RR.out.2⟩
          case measure => simp [intOf]; omega
      · obtain rfl : k = 8 := by omega
        have hz : mix (pk x 8) P C = mix (fun i => has x (i : Int)) P C := pk_all x P C
        rw [hz, ← HNF.out, ← HR.out] at D3
        clear hz
        have RG := D3.wholeC
        have TH := D2.there 0 27 (by rw [ccells_len 0 0 0 zeros_len]; omega)
        have FIN := D2.whole (ds := R) (by rw [HRL.out, ccells_len 0 0 0 zeros_len])
        have FB := below_sets (B := w.heap.size) (b := w.heap.size + 2) (by omega) R 0 hbr
        clear D1 D2 D3 hbr
        go_wp2_with (first
          | (refine wpList_load_mid rfl 44 (.tmp 5) rfl (w.heap.size + 3) 0 rfl R _ RG hu rfl (by rw [HRL.out]; exact info_card) ?_)
          | (refine wpList_store_mid rfl 44 (.tmp 4) (.tmp 34) rfl (w.heap.size + 2) 0 R.toArray rfl rfl (by simpa [HRL.out] using TH) (by simpa [HRL.out] using info_card) (all_oneCell_toArray hone) ?_))
        exact bodyPost_ret (v := .agg R.toArray) (results_blk (q := 4) rfl _ _ (w.heap.size + 2) R _ rfl FIN hu rfl (by rw [HRL.out]; exact info_card)) rfl ⟨rfl, FB⟩

set_option maxRecDepth 100000 in
set_option maxHeartbeats 3200000 in
theorem rmerge_hi (id ver lab pl : Int) (x : BitVec 32) (C P : List V3) (w : World) (hC : C.length = 8) (hP : P.length = 8) (h0 : 1099511627775 < ver) (h1 : ver ≤ 9223372036854775807) :
    Calls Try.prog 21 #[.agg (ccells id ver lab C).toArray, .agg (pcells (x.toNat : Int) pl P).toArray] w fun e w' =>
      e = .returned (.agg (ccells id (1099511627776) (if has x 8 then pl else lab) (mix (fun i => has x (i : Int)) P C)).toArray) ∧ Below w.heap.size w w' := by
  have HX := Lib.hid (fun (k : Int) (wx : World) => rhas_any x k wx)
  have HLB := Lib.hid (fun wx : World => rlabels_any x wx)
  obtain ⟨nl, hnl⟩ : ∃ nl : Int, nl = (if has x 8 then pl else lab) := ⟨_, rfl⟩
  obtain ⟨nf, hnf⟩ : ∃ nf, nf = mix (fun i => has x (i : Int)) P C := ⟨_, rfl⟩
  rw [← hnl, ← hnf]
  obtain ⟨R, hR⟩ : ∃ R, R = ccells id (1099511627776) nl nf := ⟨_, rfl⟩
  have hRl : R.length = 27 := by rw [hR, ccells_len _ _ _ (by rw [hnf, mix_len])]
  have hone : ∀ v ∈ R, v.oneCell' = true := by rw [hR]; exact ccells_one _ _ _ _
  rw [← hR]
  have HR0 := Lib.hid hR
  have HRL := Lib.hid hRl
  have HNL := Lib.hid hnl
  have HNF := Lib.hid hnf
  have HC := Lib.hid hC
  have HP := Lib.hid hP
  obtain ⟨cc, hcc⟩ : ∃ cc, cc = ccells id ver lab C := ⟨_, rfl⟩
  have hcl : cc.length = 27 := by rw [hcc]; exact ccells_len _ _ _ hC
  have B0 := Blk.new w cc 44
  rw [← hcc]
  have B1 := Blk.new (w.alloc (.cells cc.toArray 44)) (pcells (x.toNat : Int) pl P) 36
  obtain ⟨pa, hpa⟩ : ∃ pa, pa = (pcells (x.toNat : Int) pl P).toArray := ⟨_, rfl⟩
  rw [← hpa] at B1 ⊢
  have B2 := Blk.new ((w.alloc (.cells cc.toArray 44)).alloc (.cells pa 36)) (ccells 0 0 0 zeros) 44
  have B3 := Blk.new (((w.alloc (.cells cc.toArray 44)).alloc (.cells pa 36)).alloc (.cells (ccells 0 0 0 zeros).toArray 44)) (ccells 0 0 0 zeros) 44
  have hw0 := ((((Below.refl w.heap.size w).alloc (Nat.le_refl _) (.cells cc.toArray 44)).alloc (by simp) (.cells pa 36)).alloc (by simp; omega) (.cells (ccells 0 0 0 zeros).toArray 44)).alloc (by simp; omega) (.cells (ccells 0 0 0 zeros).toArray 44)
  have A0 := (B0.alloc (.cells pa 36)).alloc (.cells (ccells 0 0 0 zeros).toArray 44)
  have RG0 := A0.wholeC
  replace B0 := A0.alloc (.cells (ccells 0 0 0 zeros).toArray 44)
  replace B1 := (B1.alloc (.cells (ccells 0 0 0 zeros).toArray 44)).alloc (.cells (ccells 0 0 0 zeros).toArray 44)
  replace B2 := B2.alloc (.cells (ccells 0 0 0 zeros).toArray 44)
  have hs1 : (w.alloc (.cells cc.toArray 44)).heap.size = w.heap.size + 1 := by simp
  have hs2 : ((w.alloc (.cells cc.toArray 44)).alloc (.cells pa 36)).heap.size = w.heap.size + 2 := by simp
  have hs3 : (((w.alloc (.cells cc.toArray 44)).alloc (.cells pa 36)).alloc (.cells (ccells 0 0 0 zeros).toArray 44)).heap.size = w.heap.size + 3 := by simp
  rw [hs1] at B1
  rw [hs2] at B2
  rw [hs3] at B3
  generalize hW : ((((w.alloc (.cells cc.toArray 44)).alloc (.cells pa 36)).alloc (.cells (ccells 0 0 0 zeros).toArray 44)).alloc (.cells (ccells 0 0 0 zeros).toArray 44)) = W at *
  have C3 := B3.whole (ds := cc) (by rw [hcl, ccells_len 0 0 0 zeros_len])
  have C0 := Blk.setsOther (b := w.heap.size + 3) (g := w.heap.size) (by omega) cc 0 B0
  have C1 := Blk.setsOther (b := w.heap.size + 3) (g := w.heap.size + 1) (by omega) cc 0 B1
  have C2 := Blk.setsOther (b := w.heap.size + 3) (g := w.heap.size + 2) (by omega) cc 0 B2
  have CB := below_sets (B := w.heap.size) (b := w.heap.size + 3) (by omega) cc 0 hw0
  have TH := B3.there 0 27 (by rw [ccells_len 0 0 0 zeros_len]; omega)
  have hone0 : ∀ v ∈ cc, v.oneCell' = true := by rw [hcc]; exact ccells_one _ _ _ _
  have HCL := Lib.hid hcl
  obtain ⟨W2, hW2⟩ : ∃ W2, W2 = W.setCells (w.heap.size + 3) 0 cc := ⟨_, rfl⟩
  rw [← hW2] at C0 C1 C2 C3 CB
  rw [hcc] at C0 C3
  obtain ⟨q0, q1, q2⟩ := C0.card
  obtain ⟨p0, p1, p2⟩ := C3.card
  have fl := C3.frozen 1
  have E3 := C3.putVer (1099511627776)
  have E1 := C1.setOther (b := w.heap.size + 3) 1 (.int .i64 (1099511627776)) (by omega)
  have E2 := C2.setOther (b := w.heap.size + 3) 1 (.int .i64 (1099511627776)) (by omega)
  have EB := below_set (B := w.heap.size) (b := w.heap.size + 3) (by omega) CB 1 (.int .i64 (1099511627776))
  obtain ⟨m0, m1⟩ := E1.patch
  rw [hW2] at q1 p1 fl m0
  rw [zc27] at hW RG0
  have HW := Lib.hid hW
  have HW2 := Lib.hid hW2
  rw [← hW] at TH q1 p1 fl m0
  have HE1 := Lib.hid E1
  have HE2 := Lib.hid E2
  have HE3 := Lib.hid E3
  have HEB := Lib.hid EB
  have hu := Try.underlying44
  clear hnl hnf hR hRl hcc hcl hpa hs1 hs2 hs3 hW hW2 hw0 A0 B0 B1 B2 B3 C0 C1 C2 C3 CB E1 E2 E3 EB hC hP q0 q2 p0 p2 m1
  go_enter Try.func21, Try.ntmps21
  go_wp2_with (first
    | (refine wpList_load_mid rfl 44 (.tmp 2) rfl w.heap.size 0 rfl cc _ RG0 hu rfl (by rw [HCL.out]; exact info_card) ?_)
    | (refine wpList_store_mid rfl 44 (.tmp 5) (.tmp 7) rfl (w.heap.size + 3) 0 cc.toArray rfl rfl (by simpa [HCL.out] using TH) (by simpa [HCL.out] using info_card) (all_oneCell_toArray hone0) ?_))
  rw [HW.out, ← HW2.out]
  clear q1 p1 fl m0 RG0 TH
  refine (HLB.out _).mono ?_
  rintro e w' ⟨rfl, rfl⟩
  have C1 := HE1.out
  have C2 := HE2.out
  have C3 := HE3.out
  have hbw := HEB.out
  clear HE1 HE2 HE3 HEB HW HW2
  cases h8 : has x 8 with
  | true =>
    have HR : Hid (R = ccells id (1099511627776) pl nf) := Lib.hid (by rw [HR0.out, HNL.out, h8]; rfl)
    clear h8 HR0
    obtain ⟨q0, q1⟩ := C1.patch
    obtain ⟨p0, p1, p2⟩ := C3.card
    have fl := C3.frozen 2
    have E3 := C3.putLab pl
    have E1 := C1.setOther (b := w.heap.size + 3) 2 (.int .u32 pl) (by omega)
    have E2 := C2.setOther (b := w.heap.size + 3) 2 (.int .u32 pl) (by omega)
    have EB := below_set (B := w.heap.size) (b := w.heap.size + 3) (by omega) hbw 2 (.int .u32 pl)
    clear C1 C2 C3 hbw
    go_wp2_with fail
    clear q0 q1 p0 p1 p2 fl
    have C1 := E1
    have C2 := E2
    have C3 := E3
    have hbw := EB
    clear E1 E2 E3 EB
    go_loopw [6] (fun i wr => ∃ k : Nat, k ≤ 8 ∧ i = .int .i64 k ∧ Blk wr (w.heap.size + 1) (pcells (x.toNat : Int) pl P) ∧ Blk wr (w.heap.size + 2) (ccells 0 0 0 zeros) ∧ Blk wr (w.heap.size + 3) (ccells id (1099511627776) pl (mix (pk x k) P C)) ∧ Below w.heap.size w wr) (fun i _ => 8 - (intOf i).toNat)
    case atStart => exact ⟨0, by omega, rfl, C1, C2, by rw [pk_none x P C HC.out]; exact C3, hbw⟩
    case round =>
      obtain ⟨k, hk, rfl, D1, D2, D3, hbr⟩ := hrel
      clear C1 C2 C3 hbw
      by_cases hlt : k < 8
      · have d8 : (k : Int) < 8 := by omega
        have hks : k < P.length := by rw [HP.out]; exact hlt
        cases hx : has x (k : Int) with
        | false =>
          have H1 := Lib.hid (HX.out (k : Int) wr)
          rw [hx] at H1
          have hm : mix (pk x (k + 1)) P C = mix (pk x k) P C := mix_congr _ _ (fun i _ => pk_no x k i hx)
          have HMM := Lib.hid hm
          obtain ⟨r0, r1⟩ := D1.patch
          clear hx hm
          go_wp2_with fail
          refine H1.out.mono ?_
          rintro e w' ⟨rfl, rfl⟩
          clear r0 r1
          go_wp2_with fail
          go_roundw
          case rel => exact ⟨k + 1, by omega, by go_num, D1, D2, by rw [HMM.out]; exact D3, hbr⟩
          case measure => simp [intOf]; omega
        | true =>
          have H1 := Lib.hid (HX.out (k : Int) wr)
          rw [hx] at H1
          have hm : mix (pk x (k + 1)) P C = mix (fun i => pk x k i || i == k) P C := mix_congr _ _ (fun i _ => pk_yes x k i hx)
          obtain ⟨l0, l1, l2⟩ := Blk.field (o := 2) D1 k rfl hks
          obtain ⟨s0, s1, s2⟩ := Blk.field (o := 3) D3 k rfl (by rw [mix_len]; exact hlt)
          have f0 := D3.frozen (3 + k * 3)
          have f1 := D3.frozen (3 + k * 3 + 1)
          have f2 := D3.frozen (3 + k * 3 + 2)
          have ED := blk_field (w := wr) (g := w.heap.size + 3) (pk x k) P C [.int .i64 id, .int .i64 ((1099511627776)), .int .u32 pl] k hlt hks D3
          rw [← hm] at ED
          have E1 := Blk.setsOther (b := w.heap.size + 3) (g := w.heap.size + 1) (by omega) (vcells P[k]) (3 + k * 3) D1
          have E2 := Blk.setsOther (b := w.heap.size + 3) (g := w.heap.size + 2) (by omega) (vcells P[k]) (3 + k * 3) D2
          have EB := below_sets (B := w.heap.size) (b := w.heap.size + 3) (by omega) (vcells P[k]) (3 + k * 3) hbr
          obtain ⟨r0, r1⟩ := D1.patch
          obtain ⟨v, hv⟩ : ∃ v, v = P[k] := ⟨_, rfl⟩
          rw [← hv] at l0 l1 l2 ED EB E1 E2
          obtain ⟨v0, v1, v2⟩ := v
          simp only at l0 l1 l2
          have RR : Hid (Blk (wr.setCells (w.heap.size + 3) (3 + k * 3) (vcells (v0, v1, v2))) (w.heap.size + 3) (ccells (id) ((1099511627776)) (pl) (mix (pk x (k + 1)) P C)) ∧ Below w.heap.size w (wr.setCells (w.heap.size + 3) (3 + k * 3) (vcells (v0, v1, v2)))) := ⟨ED, EB⟩
          have HO1 := Lib.hid E1
          have HO2 := Lib.hid E2
          clear hx hm hv ED EB E1 E2
          go_wp2_with fail
          refine H1.out.mono ?_
          rintro e w' ⟨rfl, rfl⟩
          clear r0 r1
          go_wp2_with fail
          go_roundw
          case rel => exact ⟨k + 1, by omega, by go_num, HO1.out, HO2.out, RR.out.1, RR.out.2⟩
          case measure => simp [intOf]; omega
      · obtain rfl : k = 8 := by omega
        have hz : mix (pk x 8) P C = mix (fun i => has x (i : Int)) P C := pk_all x P C
        rw [hz, ← HNF.out, ← HR.out] at D3
        clear hz
        have RG := D3.wholeC
        have TH := D2.there 0 27 (by rw [ccells_len 0 0 0 zeros_len]; omega)
        have FIN := D2.whole (ds := R) (by rw [HRL.out, ccells_len 0 0 0 zeros_len])
        have FB := below_sets (B := w.heap.size) (b := w.heap.size + 2) (by omega) R 0 hbr
        clear D1 D2 D3 hbr
        go_wp2_with (first
          | (refine wpList_load_mid rfl 44 (.tmp 5) rfl (w.heap.size + 3) 0 rfl R _ RG hu rfl (by rw [HRL.out]; exact info_card) ?_)
          | (refine wpList_store_mid rfl 44 (.tmp 4) (.tmp 34) rfl (w.heap.size + 2) 0 R.toArray rfl rfl (by simpa [HRL.out] using TH) (by simpa [HRL.out] using info_card) (all_oneCell_toArray hone) ?_))
        exact bodyPost_ret (v := .agg R.toArray) (results_blk (q := 4) rfl _ _ (w.heap.size + 2) R _ rfl FIN hu rfl (by rw [HRL.out]; exact info_card)) rfl ⟨rfl, FB⟩
  | false =>
    have HR : Hid (R = ccells id (1099511627776) lab nf) := Lib.hid (by rw [HR0.out, HNL.out, h8]; rfl)
    clear h8 HR0
    go_wp2_with fail
    go_loopw [6] (fun i wr => ∃ k : Nat, k ≤ 8 ∧ i = .int .i64 k ∧ Blk wr (w.heap.size + 1) (pcells (x.toNat : Int) pl P) ∧ Blk wr (w.heap.size + 2) (ccells 0 0 0 zeros) ∧ Blk wr (w.heap.size + 3) (ccells id (1099511627776) lab (mix (pk x k) P C)) ∧ Below w.heap.size w wr) (fun i _ => 8 - (intOf i).toNat)
    case atStart => exact ⟨0, by omega, rfl, C1, C2, by rw [pk_none x P C HC.out]; exact C3, hbw⟩
    case round =>
      obtain ⟨k, hk, rfl, D1, D2, D3, hbr⟩ := hrel
      clear C1 C2 C3 hbw
      by_cases hlt : k < 8
      · have d8 : (k : Int) < 8 := by omega
        have hks : k < P.length := by rw [HP.out]; exact hlt
        cases hx : has x (k : Int) with
        | false =>
          have H1 := Lib.hid (HX.out (k : Int) wr)
          rw [hx] at H1
          have hm : mix (pk x (k + 1)) P C = mix (pk x k) P C := mix_congr _ _ (fun i _ => pk_no x k i hx)
          have HMM := Lib.hid hm
          obtain ⟨r0, r1⟩ := D1.patch
          clear hx hm
          go_wp2_with fail
          refine H1.out.mono ?_
          rintro e w' ⟨rfl, rfl⟩
          clear r0 r1
          go_wp2_with fail
          go_roundw
          case rel => exact ⟨k + 1, by omega, by go_num, D1, D2, by rw [HMM.out]; exact D3, hbr⟩
          case measure => simp [intOf]; omega
        | true =>
          have H1 := Lib.hid (HX.out (k : Int) wr)
          rw [hx] at H1
          have hm : mix (pk x (k + 1)) P C = mix (fun i => pk x k i || i == k) P C := mix_congr _ _ (fun i _ => pk_yes x k i hx)
          obtain ⟨l0, l1, l2⟩ := Blk.field (o := 2) D1 k rfl hks
          obtain ⟨s0, s1, s2⟩ := Blk.field (o := 3) D3 k rfl (by rw [mix_len]; exact hlt)
          have f0 := D3.frozen (3 + k * 3)
          have f1 := D3.frozen (3 + k * 3 + 1)
          have f2 := D3.frozen (3 + k * 3 + 2)
          have ED := blk_field (w := wr) (g := w.heap.size + 3) (pk x k) P C [.int .i64 id, .int .i64 ((1099511627776)), .int .u32 lab] k hlt hks D3
          rw [← hm] at ED
          have E1 := Blk.setsOther (b := w.heap.size + 3) (g := w.heap.size + 1) (by omega) (vcells P[k]) (3 + k * 3) D1
          have E2 := Blk.setsOther (b := w.heap.size + 3) (g := w.heap.size + 2) (by omega) (vcells P[k]) (3 + k * 3) D2
          have EB := below_sets (B := w.heap.size) (b := w.heap.size + 3) (by omega) (vcells P[k]) (3 + k * 3) hbr
          obtain ⟨r0, r1⟩ := D1.patch
          obtain ⟨v, hv⟩ : ∃ v, v = P[k] := ⟨_, rfl⟩
          rw [← hv] at l0 l1 l2 ED EB E1 E2
          obtain ⟨v0, v1, v2⟩ := v
          simp only at l0 l1 l2
          have RR : Hid (Blk (wr.setCells (w.heap.size + 3) (3 + k * 3) (vcells (v0, v1, v2))) (w.heap.size + 3) (ccells (id) ((1099511627776)) (lab) (mix (pk x (k + 1)) P C)) ∧ Below w.heap.size w (wr.setCells (w.heap.size + 3) (3 + k * 3) (vcells (v0, v1, v2)))) := ⟨ED, EB⟩
          have HO1 := Lib.hid E1
          have HO2 := Lib.hid E2
          clear hx hm hv ED EB E1 E2
          go_wp2_with fail
          refine H1.out.mono ?_
          rintro e w' ⟨rfl, rfl⟩
          clear r0 r1
          go_wp2_with fail
          go_roundw
          case rel => exact ⟨k + 1, by omega, by go_num, HO1.out, HO2.out, RR.out.1, RR.out.2⟩
          case measure => simp [intOf]; omega
      · obtain rfl : k = 8 := by omega
        have hz : mix (pk x 8) P C = mix (fun i => has x (i : Int)) P C := pk_all x P C
        rw [hz, ← HNF.out, ← HR.out] at D3
        clear hz
        have RG := D3.wholeC
        have TH := D2.there 0 27 (by rw [ccells_len 0 0 0 zeros_len]; omega)
        have FIN := D2.whole (ds := R) (by rw [HRL.out, ccells_len 0 0 0 zeros_len])
        have FB := below_sets (B := w.heap.size) (b := w.heap.size + 2) (by omega) R 0 hbr
        clear D1 D2 D3 hbr
        go_wp2_with (first
          | (refine wpList_load_mid rfl 44 (.tmp 5) rfl (w.heap.size + 3) 0 rfl R _ RG hu rfl (by rw [HRL.out]; exact info_card) ?_)
          | (refine wpList_store_mid rfl 44 (.tmp 4) (.tmp 34) rfl (w.heap.size + 2) 0 R.toArray rfl rfl (by simpa [HRL.out] using TH) (by simpa [HRL.out] using info_card) (all_oneCell_toArray hone) ?_))
        exact bodyPost_ret (v := .agg R.toArray) (results_blk (q := 4) rfl _ _ (w.heap.size + 2) R _ rfl FIN hu rfl (by rw [HRL.out]; exact info_card)) rfl ⟨rfl, FB⟩

theorem rmerge_any (id ver lab pl : Int) (x : BitVec 32) (C P : List V3) (w : World) (hC : C.length = 8) (hP : P.length = 8) (h0 : 0 ≤ ver) (h1 : ver ≤ 1099511627776) :
    Calls Try.prog 21 #[.agg (ccells id ver lab C).toArray, .agg (pcells (x.toNat : Int) pl P).toArray] w fun e w' =>
      e = .returned (.agg (ccells id (nextVer ver) (if has x 8 then pl else lab) (mix (fun i => has x (i : Int)) P C)).toArray) ∧ Below w.heap.size w w' := by
  by_cases h : 1099511627775 < ver
  · rw [show nextVer ver = 1099511627776 from by unfold nextVer; split <;> omega]
    exact rmerge_hi id ver lab pl x C P w hC hP h (by omega)
  · rw [show nextVer ver = ver + 1 from by unfold nextVer; split <;> omega]
    exact rmerge_lo id ver lab pl x C P w hC hP (by omega) (by omega)
end Go.Proofs.Ytgkpbkedaddekaa

/- Cards: a new card: what it returns. -/
namespace Go.Proofs.Ytgkpbkedaddekaa
set_option linter.unusedVariables false
open Go Go.RowKit BitM

theorem zcid (id : Int) : (ccells id 0 0 zeros).toArray = #[Value.int .i64 id, .int .i64 0, .int .u32 0, .int .i64 0, .int .i64 0, .string { data := #[] }, .int .i64 0, .int .i64 0, .string { data := #[] }, .int .i64 0, .int .i64 0, .string { data := #[] }, .int .i64 0, .int .i64 0, .string { data := #[] }, .int .i64 0, .int .i64 0, .string { data := #[] }, .int .i64 0, .int .i64 0, .string { data := #[] }, .int .i64 0, .int .i64 0, .string { data := #[] }, .int .i64 0, .int .i64 0, .string { data := #[] }] := rfl

set_option maxRecDepth 100000 in
set_option maxHeartbeats 3200000 in
theorem fresh_any (id pl : Int) (x : BitVec 32) (P : List V3) (w : World) (hP : P.length = 8) :
    Calls Try.prog 33 #[.int .i64 id, .agg (pcells (x.toNat : Int) pl P).toArray] w fun e w' =>
      e = .returned (.agg (ccells id 1 (if has x 8 then pl else 0) (mix (fun i => has x (i : Int)) P zeros)).toArray) ∧ Below w.heap.size w w' := by
  have HS := Lib.hid (fun wx : World => merge_any id 0 0 pl x zeros P wx zeros_len hP (by omega))
  have hnv : nextVer 0 = 1 := rfl
  rw [hnv] at HS
  obtain ⟨R, hR⟩ : ∃ R, R = ccells id 1 (if has x 8 then pl else 0) (mix (fun i => has x (i : Int)) P zeros) := ⟨_, rfl⟩
  have hRl : R.length = 27 := by rw [hR, ccells_len _ _ _ (mix_len _ _ _)]
  have hone : ∀ v ∈ R, v.oneCell' = true := by rw [hR]; exact ccells_one _ _ _ _
  rw [← hR] at HS ⊢
  rw [zcid id] at HS
  have HPL : Hid ((pcells (x.toNat : Int) pl P).length = 26) := Lib.hid (pcells_len _ _ hP)
  have HRL := Lib.hid hRl
  have B0 := Blk.new w (pcells (x.toNat : Int) pl P) 36
  obtain ⟨pc, hpc⟩ : ∃ pc, pc = pcells (x.toNat : Int) pl P := ⟨_, rfl⟩
  rw [← hpc] at HS B0 HPL ⊢
  have B1 := Blk.new (w.alloc (.cells pc.toArray 36)) (ccells 0 0 0 zeros) 44
  have hw0 := ((Below.refl w.heap.size w).alloc (Nat.le_refl _) (.cells pc.toArray 36)).alloc (by simp) (.cells (ccells 0 0 0 zeros).toArray 44)
  replace B0 := B0.alloc (.cells (ccells 0 0 0 zeros).toArray 44)
  have hsz : ((w.alloc (.cells pc.toArray 36)).alloc (.cells (ccells 0 0 0 zeros).toArray 44)).heap.size = w.heap.size + 2 := by simp
  have hs1 : (w.alloc (.cells pc.toArray 36)).heap.size = w.heap.size + 1 := by simp
  rw [hs1] at B1
  generalize hW : (w.alloc (.cells pc.toArray 36)).alloc (.cells (ccells 0 0 0 zeros).toArray 44) = W at *
  have HW := Lib.hid hW
  have HB := Lib.hid hw0
  have HSZ := Lib.hid hsz
  have HZ := Lib.hid zc27
  clear hR hpc hsz hs1 hW hw0 hP hnv hRl
  have RG := B0.wholeC
  have hup := Try.underlying36
  have hu := Try.underlying44
  rw [← HW.out] at RG
  rw [zc27] at RG
  go_enter Try.func33, Try.ntmps33
  go_wp2_with (first
    | (refine wpList_load_mid rfl 36 (.tmp 3) rfl w.heap.size 0 rfl pc _ RG hup rfl (by rw [HPL.out]; exact info_patch) ?_))
  rw [← zc27, HW.out]
  clear RG
  refine (HS.out W).mono ?_
  rintro e w1 ⟨rfl, hb⟩
  have C1 := B1.later hb
  have hbw : Below w.heap.size w w1 := HB.out.trans (hb.mono (by rw [HSZ.out]; omega))
  clear B0 B1 HS HSZ HB hb HW
  have TH := C1.there 0 27 (by rw [ccells_len 0 0 0 zeros_len]; omega)
  have FIN := C1.whole (ds := R) (by rw [HRL.out, ccells_len 0 0 0 zeros_len])
  have FB := below_sets (B := w.heap.size) (b := w.heap.size + 1) (by omega) R 0 hbw
  clear C1 hbw
  go_wp2_with (first
    | (refine wpList_store_mid rfl 44 (.tmp 4) (.tmp 8) rfl (w.heap.size + 1) 0 R.toArray rfl rfl (by simpa [HRL.out] using TH) (by simpa [HRL.out] using info_card) (all_oneCell_toArray hone) ?_))
  exact bodyPost_ret (v := .agg R.toArray) (results_blk (q := 4) rfl _ _ (w.heap.size + 1) R _ rfl FIN hu rfl (by rw [HRL.out]; exact info_card)) rfl ⟨rfl, FB⟩

end Go.Proofs.Ytgkpbkedaddekaa

/- Cards: the patch of what a card has, a new card, by the document: what each returns. -/
namespace Go.Proofs.Ytgkpbkedaddekaa
set_option linter.unusedVariables false
open Go Go.RowKit BitM

end Go.Proofs.Ytgkpbkedaddekaa

/- Cards: what is unlike in two cards: what it returns. -/
namespace Go.Proofs.Ytgkpbkedaddekaa
set_option linter.unusedVariables false
open Go Go.RowKit BitM

section
variable {P : Program} {ops : Array Oper} {rest : List Oper} {op : Oper} {a : Act} {w : World} {Q : Exit → Act → World → Prop}
/-- An operation by its run. -/
theorem wpList_exec (hw : Region.wanted op (yielded ops a.tmps) = true) (v : Value) (he : (execOp a.eval op).run P w = .ok (.value v) w)
    (h : wpList P ops Q rest (a.put op.dst v) w) : wpList P ops Q (op :: rest) a w :=
  wpList_step fun K hK => by
    rw [if_pos hw]
    unfold Oper.wp
    rw [he]
    exact hK _ _ h
theorem exec_neq (t u : TypeId) (x y : Operand) (ho : op.op = .binOp .neq t x y u) (xs ys : Array Value) (hx : a.eval x = .agg xs) (hy : a.eval y = .agg ys)
    (hg : P.eqGuardType P.depth t = false) (b : Bool) (hr : (Op.equalIn 10000 t (.agg xs) (.agg ys)).run P w = .ok b w) : (execOp a.eval op).run P w = .ok (.value (.bool (!b))) w := by
  unfold execOp
  simp only [ho, hx, hy, Sem.run_bind, run_eqGuard_agg w _ _ _ _ _ _ hg, run_neq_struct, hr, Result.andThen_ok, Sem.run_pure]
end

theorem info_val : (Try.prog.info? 33).map (·.size) = some 3 := by kernel_rfl
theorem guard_card : Try.prog.eqGuardType Try.prog.depth 44 = false := by kernel_rfl

end Go.Proofs.Ytgkpbkedaddekaa

/- Cards: the patch of what a card has, by the document: what it returns. -/
namespace Go.Proofs.Ytgkpbkedaddekaa
set_option linter.unusedVariables false
open Go Go.RowKit BitM

end Go.Proofs.Ytgkpbkedaddekaa

/- Cards: which values may be: what it returns. -/
namespace Go.Proofs.Ytgkpbkedaddekaa
set_option linter.unusedVariables false
open Go Go.RowKit BitM

theorem zv3 : (vcells zv).toArray = #[Value.int .i64 0, .int .i64 0, .string { data := #[] }] := rfl

/-- f[k] of an array of values. -/
theorem run_index_val (f : List V3) (k : Nat) (hk : k < f.length) (hf : f.length = 8) (w : World) :
    (Instr.index 34 (.agg (fcells f).toArray) (.int .i64 (k : Int))).run Try.prog w = .ok (.agg (vcells f[k]).toArray) w := by
  have hsz : ∀ w, (sizeOf 33).run Try.prog w = .ok 3 w := fun w => by kernel_rfl
  have hag : ∀ w, (isAgg 33).run Try.prog w = .ok true w := fun w => by kernel_rfl
  have h8 : (0 : Int) ≤ (k : Int) ∧ (k : Int) < ((8 : Nat) : Int) := by omega
  have hp : (part 33 (fcells f).toArray (k * 3)).run Try.prog w = .ok (.agg (vcells f[k]).toArray) w := by
    simp only [part, Sem.run_bind, hag, Result.andThen_ok, hsz, if_true, Sem.run_pure, fcells_ext f k hk]
  simp only [Instr.index, asIntOf, Sem.run_bind, Sem.run_pure, Result.andThen_ok, run_underlying Try.underlying34, if_pos h8, hsz, Int.toNat_natCast, hp]
theorem exec_index {a : Act} {w : World} {op : Oper} (f : List V3) (k : Nat) (hk : k < f.length) (hf : f.length = 8) (x y : Operand) (ho : op.op = .index 34 x y) (hx : a.eval x = .agg (fcells f).toArray) (hy : a.eval y = .int .i64 (k : Int)) :
    (execOp a.eval op).run Try.prog w = .ok (.value (.agg (vcells f[k]).toArray)) w := by
  unfold execOp
  simp only [ho, hx, hy, Sem.run_bind, run_index_val f k hk hf, Result.andThen_ok, Sem.run_pure]

set_option maxRecDepth 100000 in
set_option maxHeartbeats 1600000 in
theorem values_any (f : List V3) (w : World) (hf : f.length = 8) :
    Calls Try.prog 52 #[.agg (fcells f).toArray] w fun e w' => e = .returned (.bool (vk f 8)) ∧ Below w.heap.size w w' := by
  have HF := Lib.hid hf
  have HFL : Hid ((fcells f).length = 24) := Lib.hid (by rw [fcells_len, hf])
  have B0 := Blk.new w (fcells f) 34
  obtain ⟨fa, hfa⟩ : ∃ fa, fa = (fcells f).toArray := ⟨_, rfl⟩
  rw [← hfa] at B0 ⊢
  have HB := Lib.hid ((Below.refl w.heap.size w).alloc (Nat.le_refl _) (.cells fa 34))
  obtain ⟨R, hR⟩ : ∃ R, R = vk f 8 := ⟨_, rfl⟩
  rw [← hR]
  have HR := Lib.hid hR
  have RG := B0.wholeC
  have hu8 := Try.underlying34
  have hu := Try.underlying33
  have HFA := Lib.hid hfa
  clear hfa hf hR B0
  go_enter Try.func52, Try.ntmps52
  go_wp2_with (first
    | (refine wpList_load_mid rfl 34 (.tmp 1) rfl w.heap.size 0 rfl (fcells f) _ RG hu8 rfl (by rw [HFL.out]; exact info_fields) ?_))
  clear RG
  go_loopw [6] (fun i wr => ∃ k : Nat, k ≤ 8 ∧ i = .int .i64 k ∧ Hid (vk f k = true) ∧ Below w.heap.size w wr) (fun i _ => 8 - (intOf i).toNat)
  case atStart => exact ⟨0, by omega, rfl, Lib.hid rfl, HB.out⟩
  case round =>
    obtain ⟨k, hk, rfl, HK, hbr⟩ := hrel
    clear HB
    by_cases hlt : k < 8
    · have hkf : k < f.length := by rw [HF.out]; exact hlt
      have d8 : (k : Int) < 8 := by omega
      have HS := Lib.hid (vk_succ f k)
      obtain ⟨v, hv⟩ : ∃ v, v = f[k] := ⟨_, rfl⟩
      have hg : f.getD k zv = v := by rw [hv]; simp [List.getD, hkf]
      have HG := Lib.hid hg
      have HV := Lib.hid hv
      obtain ⟨v0, v1, v2⟩ := v
      have HC := Lib.hid (fun wx : World => vcheck_any v0 v1 v2 wx)
      have A1 := Blk.new wr (vcells zv) 33
      have TH := A1.there 0 3 (by simp [vcells])
      have E1 := A1.whole (ds := vcells (v0, v1, v2)) rfl
      have RGV := E1.wholeC
      have EB := below_sets (B := w.heap.size) (b := wr.heap.size) hbr.size (vcells (v0, v1, v2)) 0 (hbr.alloc hbr.size (.cells (vcells zv).toArray 33))
      have hone : ∀ u ∈ vcells (v0, v1, v2), u.oneCell' = true := by intro u hu; simp [vcells] at hu; rcases hu with rfl | rfl | rfl <;> rfl
      rw [zv3] at TH RGV EB
      have HEB := Lib.hid EB
      clear hv hg A1 E1 EB
      cases hc : vchk (v0, v1, v2) with
      | false =>
        rw [hc] at HC
        have HCC := Lib.hid hc
        clear hc
        go_wp2_with (first
          | (refine wpList_exec (op := ⟨some 8, .index 34 _ _, _, _, _, _⟩) (by rfl) (.agg (vcells (v0, v1, v2)).toArray) (by rw [HV.out]; exact exec_index f k hkf HF.out (.tmp 5) (.tmp 6) rfl rfl rfl) ?_)
          | (refine wpList_store_mid rfl 33 (.tmp 4) (.tmp 8) rfl wr.heap.size 0 (vcells (v0, v1, v2)).toArray rfl rfl (by simpa [vcells] using TH) (by simpa [vcells] using info_val) (all_oneCell_toArray hone) ?_)
          | (refine wpList_load_mid rfl 33 (.tmp 4) rfl wr.heap.size 0 rfl (vcells (v0, v1, v2)) _ RGV hu rfl info_val ?_))
        refine (HC.out _).mono ?_
        rintro e w1 ⟨rfl, hb⟩
        have hbw := HEB.out.trans (hb.mono HEB.out.size)
        clear TH RGV HEB hb
        go_wp2_with fail
        go_ret
        refine ⟨?_, hbw⟩
        have hfin : R = false := by rw [HR.out]; exact vk_mono f (j := k + 1) (by omega) (by rw [HS.out, HG.out, HCC.out]; simp)
        rw [hfin]
        rfl
      | true =>
        rw [hc] at HC
        have HCC := Lib.hid hc
        clear hc
        go_wp2_with (first
          | (refine wpList_exec (op := ⟨some 8, .index 34 _ _, _, _, _, _⟩) (by rfl) (.agg (vcells (v0, v1, v2)).toArray) (by rw [HV.out]; exact exec_index f k hkf HF.out (.tmp 5) (.tmp 6) rfl rfl rfl) ?_)
          | (refine wpList_store_mid rfl 33 (.tmp 4) (.tmp 8) rfl wr.heap.size 0 (vcells (v0, v1, v2)).toArray rfl rfl (by simpa [vcells] using TH) (by simpa [vcells] using info_val) (all_oneCell_toArray hone) ?_)
          | (refine wpList_load_mid rfl 33 (.tmp 4) rfl wr.heap.size 0 rfl (vcells (v0, v1, v2)) _ RGV hu rfl info_val ?_))
        refine (HC.out _).mono ?_
        rintro e w1 ⟨rfl, hb⟩
        have hbw := HEB.out.trans (hb.mono HEB.out.size)
        clear TH RGV HEB hb
        go_wp2_with fail
        go_roundw
        case rel => exact ⟨k + 1, by omega, by go_num, Lib.hid (by rw [HS.out, HK.out, HG.out, HCC.out]; rfl), hbw⟩
        case measure => simp [intOf]; omega
    · obtain rfl : k = 8 := by omega
      go_wp2_with fail
      go_ret
      exact ⟨by rw [HR.out, HK.out]; rfl, hbr⟩
end Go.Proofs.Ytgkpbkedaddekaa

/- Cards: which cards may be: what it returns. -/
namespace Go.Proofs.Ytgkpbkedaddekaa
set_option linter.unusedVariables false
open Go Go.RowKit BitM

end Go.Proofs.Ytgkpbkedaddekaa

/- CardMerges: whether the layer is awake. -/
namespace Go.Proofs.Ytgkpbkedaddekaa
set_option linter.unusedVariables false
open Go Go.RowKit BitM

end Go.Proofs.Ytgkpbkedaddekaa

/- What the frame gives of a value, of fields, of a card, of a patch. -/
namespace Go.Proofs.Ytgkpbkedaddekaa
set_option linter.unusedVariables false
open Go Go.RowKit BitM

section
variable {H : Type} {enc : TypeId × Value → H} {W : World}

theorem list3 {α : Type} {l : List α} {a b c : α} (hl : l.length = 3) (h0 : (l.drop 0).take 1 = [a]) (h1 : (l.drop 1).take 1 = [b]) (h2 : (l.drop 2).take 1 = [c]) : l = [a, b, c] := by
  match l, hl with
  | [x, y, z], _ => simp at h0 h1 h2; rw [h0, h1, h2]
/-- What a number, a text in an input is. -/
def okV (v : V3) : Prop := (-9223372036854775808 ≤ v.1 ∧ v.1 ≤ 9223372036854775807) ∧ (-9223372036854775808 ≤ v.2.1 ∧ v.2.1 ≤ 9223372036854775807) ∧ v.2.2.size ≤ maxLen
theorem trod_val {sp : Nat → Bool} {held : Bool} {n : Nat} {cs : List Value} {x : DataW H × List MemPlace} (h : DataW.trod enc Try.prog W 0 sp held n 33 cs = some x) : ∃ v : V3, cs = vcells v ∧ okV v := by
  obtain ⟨y0, y1, y2, m, _, hl, h0, h1, h2⟩ := Go.Deep.trod_struct3 Try.underlying33 h
  have c1 : Try.prog.cellsOf 3 = 1 := by kernel_rfl
  have c2 : Try.prog.cellsOf 9 = 1 := by kernel_rfl
  have c3 : Try.prog.cellsOf 33 = 3 := by kernel_rfl
  rw [c3] at hl
  simp only [c1] at h0 h1
  simp only [c2] at h2
  obtain ⟨a, e0, _, w0⟩ := DataW.trod_int Try.underlying3 h0
  obtain ⟨b, e1, _, w1⟩ := DataW.trod_int Try.underlying3 h1
  obtain ⟨s, e2, _, w2⟩ := DataW.trod_string Try.underlying9 h2
  exact ⟨(a, b, s), list3 hl e0 e1 e2, i64_wf w0, i64_wf w1, w2⟩
theorem cut3 : ∀ (l : List Value) (n : Nat), l.length = n * 3 → (∀ i, i < n → ∃ v : V3, (l.drop (i * 3)).take 3 = vcells v ∧ okV v) → ∃ f : List V3, l = fcells f ∧ f.length = n ∧ ∀ v ∈ f, okV v
  | l, 0, hl, _ => ⟨[], List.length_eq_zero_iff.1 (by rw [hl]), rfl, by simp⟩
  | l, n + 1, hl, h => by
    obtain ⟨v, hv, ok⟩ := h 0 (by omega)
    obtain ⟨f, hf, hn, hok⟩ := cut3 (l.drop 3) n (by rw [List.length_drop, hl]; omega) (fun i hi => by
      have := h (i + 1) (by omega)
      rw [List.drop_drop, show 3 + i * 3 = (i + 1) * 3 by omega]
      exact this)
    refine ⟨v :: f, ?_, by simp [hn], ?_⟩
    · rw [fcells_cons, ← hf, ← hv]
      simp
    · intro u hu
      rcases List.mem_cons.1 hu with rfl | hu
      · exact ok
      · exact hok u hu
theorem trod_fields {sp : Nat → Bool} {held : Bool} {n : Nat} {cs : List Value} {x : DataW H × List MemPlace} (h : DataW.trod enc Try.prog W 0 sp held n 34 cs = some x) : ∃ f : List V3, cs = fcells f ∧ f.length = 8 ∧ ∀ v ∈ f, okV v := by
  obtain ⟨xs, m, _, _, hl, hxl, heach⟩ := DataW.trod_array Try.underlying34 h
  have c3 : Try.prog.cellsOf 33 = 3 := by kernel_rfl
  have c8 : Try.prog.cellsOf 34 = 24 := by kernel_rfl
  rw [c8] at hl
  simp only [c3] at heach
  refine cut3 cs 8 hl fun i hi => ?_
  have h1 := heach i hi
  rw [List.getElem?_eq_getElem (by rw [hxl]; exact hi)] at h1
  exact trod_val h1
theorem list2 {α : Type} {l : List α} {a b : α} (hl : l.length = 2) (h0 : (l.drop 0).take 1 = [a]) (h1 : (l.drop 1).take 1 = [b]) : l = [a, b] := by
  match l, hl with
  | [x, y], _ => simp at h0 h1; rw [h0, h1]
end
end Go.Proofs.Ytgkpbkedaddekaa

/- Loads of whole structs under guards, == and != of structs, of values: general. -/
namespace Go.Proofs.Ytgkpbkedaddekaa
set_option linter.unusedVariables false
open Go Go.RowKit

section
variable {P : Program} {ops : Array Oper} {rest : List Oper} {op : Oper} {a : Act} {w : World} {Q : Exit → Act → World → Prop}
end

section
variable {P : Program} {ops : Array Oper} {rest : List Oper} {op : Oper} {a : Act} {w : World} {Q : Exit → Act → World → Prop}
end

end Go.Proofs.Ytgkpbkedaddekaa

/- Slices of structs: append onto a row of the call's own, and a slice cut, whatever an element's size is. -/
namespace Go.Proofs.Ytgkpbkedaddekaa
set_option linter.unusedVariables false
open Go Go.RowKit

theorem row_form {w : World} {base : Nat} {e : TypeId} {size n : Nat} {v : Value} {xs : List Value} (h : w.ownsRow base e size v n xs) : ∃ A c, v = .slice A n c := by
  rcases h.2 with ⟨rfl, h0⟩ | ⟨g, cap, cur, rfl, _⟩
  · exact ⟨none, 0, by rw [h0]⟩
  · exact ⟨_, _, rfl⟩
theorem row_sees {w : World} {base : Nat} {e : TypeId} {size n : Nat} {A : Option Addr} {c : Nat} {xs : List Value} (h : w.ownsRow base e size (.slice A n c) n xs) : Sees w w.heap.size A xs := fun hx => by
  rcases h.2 with ⟨hv, h0⟩ | ⟨g, cap, cur, hv, _, hh, _⟩
  · have := h.1
    rw [h0, Nat.zero_mul] at this
    omega
  have hA : A = some ⟨g, 0, none⟩ := by injection hv
  subst hA
  have hlt : g < w.heap.size := by
    rcases Nat.lt_or_ge g w.heap.size with h1 | h1
    · exact h1
    · rw [Array.getElem?_eq_none h1] at hh; cases hh
  exact ⟨g, 0, rfl, hlt, fun j hj => by
    have h1 := h.cells (g := g) rfl j _ (List.getElem?_eq_getElem hj)
    rw [add_at] at h1
    exact h1⟩
theorem row_later {w w' : World} {base : Nat} {e : TypeId} {size n : Nat} {v : Value} {xs : List Value} (h : w.ownsRow base e size v n xs) (hl : Below w.heap.size w w') : w'.ownsRow base e size v n xs :=
  World.ownsRow.kept h ⟨hl.os, hl.tape, hl.output, hl.size, fun q hq _ => hl.block q hq⟩ (by by_cases h : v.ownBlock = none; exact .inl h; exact .inr h)
theorem run_appk {P : Program} (w : World) (base : Nat) (t ty e : TypeId) (i : TypeInfo) (z : Value) (size bytes : Nat) (ht : P.underlying t = some (.slice e)) (hi : P.info? e = some i) (hz : i.zero = some z)
    (hsize : i.size = size) (hby : i.bytes = bytes) (hzs : z.cells.size = size) (hpos : 0 < size) (v : Value) (n : Nat) (xs : List Value) (hown : w.ownsRow base e size v n xs)
    (B : Nat) (A : Option Addr) (m c : Nat) (news : List Value) (hl : news.length = m * size) (hs : Sees w B A news) (h1 : ∀ u ∈ news, u.oneCell' = true)
    (h63 : n + m ≤ maxLen) (hbytes : (n + m) * bytes ≤ 140737488355328) (hbase : base ≤ w.heap.size) :
    ∃ A' c' w', (Builtin.append_ #[t, t] ty #[v, .slice A m c]).run P w = .ok (.slice A' (n + m) c') w' ∧ w'.ownsRow base e size (.slice A' (n + m) c') (n + m) (xs ++ news) ∧
      w.grownBy w' v.ownBlock ∧ ((Value.slice A' (n + m) c').ownBlock = v.ownBlock ∨ (Value.slice A' (n + m) c').ownBlock = some w.heap.size) := by
  obtain ⟨A0, c0, hv⟩ := row_form hown
  rcases A with _ | ad
  · have hn : news = [] := by
      rcases news with _ | ⟨x, l⟩
      · rfl
      · obtain ⟨b, o, h, _⟩ := hs (by simp)
        cases h
    subst hn
    obtain rfl : m = 0 := by
      rcases Nat.eq_zero_or_pos m with h | h
      · exact h
      · have := Nat.mul_pos h hpos
        simp at hl
        omega
    subst hv
    refine ⟨A0, c0, w, ?_, by simpa using hown, World.grownBy.refl w _, .inl (by simp)⟩
    rcases hown.2 with ⟨hv0, h0⟩ | ⟨g, cap, cur, hv0, _, _, hnc, _⟩
    · injection hv0 with h1' h2' h3'
      subst h1' h3'
      simp [Builtin.append_, run_underlying ht, sizeOf, typeInfo, hi, Builtin.lenOf, Builtin.firstCells, h0]
    · injection hv0 with h1' h2' h3'
      subst h1' h3'
      simp [Builtin.append_, run_underlying ht, sizeOf, typeInfo, hi, Builtin.lenOf, Builtin.firstCells, hnc, storeCells]
  · have hcells : ∀ j u, news[j]? = some u → w.cell? (ad.add j) = some u := by
      intro j u hu
      have hj : j < news.length := by
        rcases Nat.lt_or_ge j news.length with h | h
        · exact h
        · rw [List.getElem?_eq_none h] at hu; cases hu
      obtain ⟨b, o, h, _, hc⟩ := hs (by omega)
      injection h with h
      subst h
      rw [add_at, hc j hj, ← hu, List.getElem?_eq_getElem hj]
    obtain ⟨v', w', hrun, h2, h3, _, h5⟩ := run_append_own_at (P := P) w base t ty e i z size bytes ht hi hz hsize hby hzs hpos v n xs hown ad m c news hl hcells h1 h63 hbytes hbase
    obtain ⟨A', c', hv'⟩ := row_form h2
    subst hv'
    exact ⟨A', c', w', hrun, h2, h3, h5⟩

/-- append onto a row of the call's own, whatever the source is, and whatever an element's size is. -/
theorem wpList_appk {P : Program} (w : World) {ops : Array Oper} {rest : List Oper} {o : Oper} {a : Act} {Q : Exit → Act → World → Prop} (hgd : o.guard = none) (s x : Operand) (t : TypeId)
    (ho : o.op = .call { callee := .builtin .append, args := #[s, x], argTypes := #[t, t] })
    (base : Nat) (e : TypeId) (i : TypeInfo) (z : Value) (size bytes : Nat) (ht : P.underlying t = some (.slice e)) (hi : P.info? e = some i) (hz : i.zero = some z)
    (hsize : i.size = size) (hby : i.bytes = bytes) (hzs : z.cells.size = size) (hpos : 0 < size) (v : Value) (n : Nat) (xs : List Value) (hv : a.eval s = v) (hown : w.ownsRow base e size v n xs)
    (B : Nat) (A : Option Addr) (c : Nat) (news : List Value) (m : Nat) (hx : a.eval x = .slice A m c) (hn : news.length = m * size) (hs : Sees w B A news) (h1 : ∀ u ∈ news, u.oneCell' = true)
    (h63 : n + m ≤ maxLen) (hbytes : (n + m) * bytes ≤ 140737488355328) (hbase : base ≤ w.heap.size)
    (h : ∀ A' c' w', w'.ownsRow base e size (.slice A' (n + m) c') (n + m) (xs ++ news) → Below base w w' → w.grownBy w' v.ownBlock →
      ((Value.slice A' (n + m) c').ownBlock = v.ownBlock ∨ (Value.slice A' (n + m) c').ownBlock = some w.heap.size) →
      wpList P ops Q rest (a.put o.dst (.slice A' (n + m) c')) w') : wpList P ops Q (o :: rest) a w := by
  refine wpList_plain hgd fun K hK => ?_
  obtain ⟨A', c', w', hrun, h2, h3, h4⟩ := run_appk (P := P) w base t o.type e i z size bytes ht hi hz hsize hby hzs hpos v n xs hown B A m c news hn hs h1 h63 hbytes hbase
  unfold Oper.wp execOp
  simp only [ho, resolve, invoke, builtin, Sem.run_bind, Sem.run_pure, Result.andThen_ok, List.map_toArray, List.map_cons, List.map_nil, hv, hx, hrun]
  exact hK _ _ (h A' c' w' h2 ((Below.refl _ _).grown h3 hbase (fun k hk => (hown.lt k hk).1)) h3 h4)

end Go.Proofs.Ytgkpbkedaddekaa

/- append of any number of elements onto a row of the call's own, as a step of a region that draws its order (for go_region_law). -/
namespace Go.Proofs.Ytgkpbkedaddekaa
set_option linter.unusedVariables false
open Go Go.RowKit

end Go.Proofs.Ytgkpbkedaddekaa

/- append onto a new slice that has no room: it leaves a later world. -/
namespace Go.Proofs.Ytgkpbkedaddekaa
set_option linter.unusedVariables false
open Go Go.RowKit

end Go.Proofs.Ytgkpbkedaddekaa

/- A region that draws its order, whose calls make memory, and whose last operations (a store, an append) wait for all the others: the others walked once, in the order of the text. -/
namespace Go.Proofs.Ytgkpbkedaddekaa
open Go Go.RowKit

section
variable (P : Program) (ops : Array Oper) (md : Region.Mode) (G : Tmp → Option Rel) (w0 : World) (n : Nat) (L : Array Bool → Act → Prop)
def wpAnyH : Nat → Array Bool → Act → Prop
  | 0, listed, a => L listed a
  | f + 1, listed, a => Region.ready md ops listed ≠ [] ∧ ∀ i ∈ Region.ready md ops listed, i < n ∧ gOp P ops G w0 i listed (wpAnyH f (listed.setIfInBounds i true)) a
end
section
variable {P : Program} {ops : Array Oper} {md : Region.Mode} {G : Tmp → Option Rel} {w0 : World} {n : Nat} {L : Array Bool → Act → Prop}

theorem wpAnyH_first (hF : Fed ops md G) {i : Nat} {oi : Oper} (hi : ops[i]? = some oi) (hsel : ∀ (j : Nat) (o : Oper) cs b, ops[j]? = some o → o.op ≠ .select cs b)
    (hs : Region.sinkB md ops n = true) (hc : Region.chainB md ops n = true) (hn : n < ops.size) (hin : i < n)
    (hdone : ∀ listed a, L listed a → ∀ j ∈ Region.ready md ops listed, n ≤ j) :
    ∀ (fuel : Nat) (listed : Array Bool) (a : Act), HeadInv md ops n listed →
      (∀ j oj, ops[j]? = some oj → j ≠ i → listed.getD j true = false → (∀ e ∈ oj.after, Region.binds md e = true → e.on ≠ i) → oi.apart ops oj = true) →
      i ∈ Region.ready md ops listed → (∃ w, Inv ops G w0 listed a w) →
      gOp P ops G w0 i listed (wpAnyH P ops md G w0 n L fuel (listed.setIfInBounds i true)) a → wpAnyH P ops md G w0 n L (fuel + 1) listed a := by
  intro fuel
  induction fuel with
  | zero =>
    intro listed a inv _ hr hne H
    have hun := (mem_ready.1 hr).1
    refine ⟨fun h => (by rw [h] at hr; cases hr), fun j hj => ?_⟩
    have hjn : j < n := by
      rcases Nat.lt_or_ge j n with h | h
      · exact h
      · exact absurd hj (tail_waits hs hc hn inv _ i rfl hin hun j h)
    refine ⟨hjn, ?_⟩
    by_cases hji : j = i
    · subst hji; exact H
    · obtain ⟨u, hp, _⟩ := exists_poss hF hr hi hne (H oi hi).1
      have h1 := (H oi hi).2 u hp
      have := hdone _ _ h1 j (ready_mono hj hji)
      omega
  | succ fuel ih =>
    intro listed a inv hfree hr hne H
    have hiun := (mem_ready.1 hr).1
    refine ⟨fun h => (by rw [h] at hr; cases hr), fun j hj => ?_⟩
    have hjn : j < n := by
      rcases Nat.lt_or_ge j n with h | h
      · exact h
      · exact absurd hj (tail_waits hs hc hn inv _ i rfl hin hiun j h)
    refine ⟨hjn, ?_⟩
    by_cases hji : j = i
    · subst hji; exact H
    obtain ⟨hgi, hnext⟩ := H oi hi
    obtain ⟨v0, hp0, _⟩ := exists_poss hF hr hi hne hgi
    obtain ⟨hjun, oj', hoj', hall⟩ := mem_ready.1 hj
    have hnot : ∀ e ∈ oj'.after, Region.binds md e = true → e.on ≠ i := fun e he hb heq => by
      have h1 := hall e he hb
      rw [heq, getD_both hiun] at h1
      cases h1
    intro oj hoj
    obtain rfl : oj' = oj := by rw [hoj] at hoj'; injection hoj' with h; exact h.symm
    have hap := hfree j oj' hoj hji hjun hnot
    obtain ⟨p1, p2, p3⟩ := Oper.apart_spec hap
    have sj : ∀ v, Alike ops oj' a (a.put oi.dst v) := fun v => alike_put (fun cs b => hsel j oj' cs b hoj) p1
    have si : ∀ u, Alike ops oi a (a.put oj'.dst u) := fun u => alike_put (fun cs b => hsel i oi cs b hi) p3
    have hjr := ready_mono hj hji
    refine ⟨fun hwt w hw => ?_, fun u hu => ?_⟩
    · have h1 := (((hnext v0 hp0).2 j hjr).2 oj' hoj).1 (by rw [(sj v0).want]; exact hwt) w ((sj v0).symm.lean hw)
      exact (sj v0).gives h1
    · have hne' : ∃ w, Inv ops G w0 (listed.setIfInBounds j true) (a.put oj'.dst u) w := by
        rcases hu with ⟨_, h, _⟩ | ⟨_, rfl⟩
        · exact h
        · obtain ⟨w, hw⟩ := hne
          exact ⟨w, hw.put hF hoj (fun d R hd hR h => absurd rfl h)⟩
      have hiun' : (listed.setIfInBounds j true).getD i true = false := by rw [getD_set_ne true hji]; exact hiun
      have hfree' : ∀ k ok, ops[k]? = some ok → k ≠ i → (listed.setIfInBounds j true).getD k true = false →
          (∀ e ∈ ok.after, Region.binds md e = true → e.on ≠ i) → oi.apart ops ok = true := fun k ok hk hki hun hno => by
        refine hfree k ok hk hki ?_ hno
        by_cases hjk : j = k
        · subst hjk; exact hjun
        · rw [getD_set_ne true hjk] at hun; exact hun
      refine ih (listed.setIfInBounds j true) (a.put oj'.dst u) (inv.set hj hjn) hfree' (ready_mono hr (Ne.symm hji)) hne' ?_
      intro oi' hoi'
      obtain rfl : oi = oi' := by rw [hi] at hoi'; injection hoi' with h
      refine ⟨fun hwt w hw => ?_, fun v hv => ?_⟩
      · exact (si u).symm.gives (hgi (by rw [← (si u).want]; exact hwt) w ((si u).lean hw))
      · have hI : ∃ w, Inv ops G w0 ((listed.setIfInBounds i true).setIfInBounds j true) ((a.put oi.dst v).put oj'.dst u) w := by
          rcases hv with ⟨_, ⟨w, hw⟩, _⟩ | ⟨_, rfl⟩
          · exact ⟨w, hw.comm hji (fun d hd he => p2 d he hd)⟩
          · obtain ⟨w, hw⟩ := hne'
            exact ⟨w, (hw.put hF hi (fun d R hd hR h => absurd rfl h)).comm hji (fun d hd he => p2 d he hd)⟩
        have hpi : Poss P ops G w0 i listed oi a v := by
          rcases hv with ⟨h1, _, w2, h2⟩ | ⟨h1, h2⟩
          · refine .inl ⟨by rw [← (si u).want]; exact h1, ?_, w2, by rw [← (si u).rel]; exact h2⟩
            obtain ⟨w, hw⟩ := hI
            exact ⟨w, hw.less hF hoj (by rw [getD_set_ne true (Ne.symm hji)]; exact hjun)⟩
          · exact .inr ⟨by rw [← (si u).want]; exact h1, h2⟩
        have hk := (((hnext v hpi).2 j hjr).2 oj' hoj).2 u (by
          rcases hu with ⟨h1, _, w2, h2⟩ | ⟨h1, h2⟩
          · exact .inl ⟨by rw [(sj v).want]; exact h1, hI, w2, by rw [(sj v).rel]; exact h2⟩
          · exact .inr ⟨by rw [(sj v).want]; exact h1, h2⟩)
        rw [Array.setIfInBounds_comm _ _ hji, Act.put_comm a u v (fun d hd he => p2 d he hd)]
        exact hk

theorem wpAny_of_H {g : Nat} {Q : Exit → Act → World → Prop} (hF : Fed ops md G) (hL : ∀ listed a w, L listed a → Inv ops G w0 listed a w → wpAny P md ops Q g listed a w) :
    ∀ (f : Nat) (listed : Array Bool) (a : Act) (w : World), Inv ops G w0 listed a w → wpAnyH P ops md G w0 n L f listed a → wpAny P md ops Q (f + g) listed a w
  | 0, _, _, w, hw, h => by rw [Nat.zero_add]; exact hL _ _ w h hw
  | fuel + 1, listed, a, w, hw, h => by
    rw [show fuel + 1 + g = (fuel + g) + 1 by omega]
    refine ⟨fun h0 => absurd h0 h.1, fun i hi => ?_⟩
    obtain ⟨hun, o, ho, _⟩ := mem_ready.1 hi
    obtain ⟨hg, hn⟩ := (h.2 i hi).2 o ho
    unfold wpOp
    simp only [ho]
    by_cases hwt : Region.wanted o (yielded ops a.tmps) = true
    · simp only [hwt, if_true]
      left
      have h1 := hg hwt w (hw.lean hF hi ho)
      have next : ∀ u w', Le w w' → relOf P G w0 o a u w' → wpAny P md ops Q (fuel + g) (listed.setIfInBounds i true) (a.put o.dst u) w' := fun u w' hl hr => by
        have hI := (hw.mono hl).put hF ho (u := u) (fun d R hd hR _ => rel_of hr d R hd hR)
        exact wpAny_of_H hF hL fuel _ _ w' hI (hn u (.inl ⟨hwt, ⟨w', hI⟩, ⟨w', hr⟩⟩))
      unfold gives at h1
      unfold Oper.wp
      generalize (execOp a.eval o).run P w = r at *
      cases r with
      | ok n w' =>
        cases n <;> simp only [givesUpon] at h1 <;> simp only [Oper.upon]
        case value u => exact next _ _ h1.1 h1.2
        case skip => exact next _ _ h1.1 h1.2
        case enter f args => exact h1.2.mono fun e w'' ⟨v, he, hl, hr⟩ => by subst he; exact next _ _ (h1.1.trans hl) hr
      | halt x w' => simp only [givesUpon] at h1
    · simp only [hwt]
      exact wpAny_of_H hF hL fuel _ _ w (hw.put hF ho (fun d R hd hR h => absurd rfl h)) (hn undef (.inr ⟨by simpa using hwt, rfl⟩))

attribute [local semireducible] wpG in
theorem wpAnyH_lex {g : Nat} {Tn : Act → World → Prop} (hF : Fed ops md G) (hsel : Region.noSelect ops = true) (hs : Region.sinkB md ops n = true) (hc : Region.chainB md ops n = true) (hn : n < ops.size) (nt : Nat) (hd : ∀ o ∈ ops, ∀ d, o.dst = some d → d < nt) :
    ∀ (l : List Oper) (k : Nat) (listed : Array Bool) (a : Act) (S : World → Prop), (∀ j, j < l.length → l[j]? = ops[k + j]?) → k + l.length = n → HeadInv md ops n listed →
    Region.lexHead md ops g l.length k listed = true → a.tmps.size = nt → (∃ w, Inv ops G w0 listed a w) → (∀ w, Inv ops G w0 listed a w → S w) → wpG P ops G w0 Tn l a S →
    wpAnyH P ops md G w0 n (fun listed' a' => Region.seqB md ops g n listed' = true ∧ ∀ w, Inv ops G w0 listed' a' w → Tn a' w) l.length listed a
  | [], k, listed, a, S, _, hk, _, hB, _, _, hS, h => by
    have : k = n := by simpa using hk
    subst this
    unfold wpG at h
    exact ⟨by simpa [Region.lexHead] using hB, fun w hw => h w hw.1 (hS w hw)⟩
  | o :: l, k, listed, a, S, hl, hk, inv, hB, ha, hne, hS, h => by
    have h0 : ops[k]? = some o := by simpa using (hl 0 (by simp)).symm
    simp only [List.length_cons, Region.lexHead, Bool.and_eq_true] at hB
    obtain ⟨⟨hr, hf⟩, hB'⟩ := hB
    have hkn : k < n := by simp only [List.length_cons] at hk; omega
    have hrd : k ∈ Region.ready md ops listed := by simpa using hr
    have hun := (mem_ready.1 hrd).1
    have hl' : ∀ j, j < l.length → l[j]? = ops[k + 1 + j]? := fun j hj => by have := hl (j + 1) (by simp; omega); simpa [Nat.add_assoc, Nat.add_comm 1 j] using this
    have hk' : k + 1 + l.length = n := by simp only [List.length_cons] at hk; omega
    refine wpAnyH_first hF h0 (Region.noSelect_spec hsel) hs hc hn hkn (fun listed' a' hL => seqB_ready hL.1) l.length listed a inv (Region.free_spec h0 hf) hrd hne ?_
    intro o' ho'
    obtain rfl : o = o' := by rw [h0] at ho'; injection ho' with h
    unfold wpG at h
    by_cases hwt : Region.wanted o (yielded ops a.tmps) = true
    · simp only [hwt, if_true] at h
      cases hb : o.dst.bind G with
      | some R =>
        simp only [hb] at h
        have hrel : relOf P G w0 o a = R.rel := by unfold relOf; rw [hb]
        obtain ⟨d, hod, hGd⟩ := Option.bind_eq_some_iff.1 hb
        refine ⟨fun _ w hw => by rw [hrel]; exact h.1 w hw, fun u hu => ?_⟩
        rcases hu with ⟨_, ⟨w1, hI⟩, w2, hr2⟩ | ⟨hw', _⟩
        · rw [hrel] at hr2
          have hreal : u ≠ undef := fun e => R.real w2 (e ▸ hr2)
          have hlt : d < a.tmps.size := by rw [ha]; exact hd o (Array.mem_of_getElem? h0) d hod
          have hev : (a.put o.dst u).eval (.tmp d) = u := by rw [hod]; simp [Act.put, Act.eval, hlt]
          have hS' : ∀ w, Inv ops G w0 (listed.setIfInBounds k true) (a.put o.dst u) w → S w ∧ R.rel u w := fun w hw => by
            refine ⟨hS w (hw.less hF h0 hun), ?_⟩
            have hls : (listed.setIfInBounds k true).getD k false = true := by
              rcases Nat.lt_or_ge k listed.size with h' | h'
              · simp [h']
              · simp [Array.getElem?_eq_none h'] at hun
            have := hw.2 k o d R h0 hls hod hGd (by rw [hev]; exact hreal)
            rwa [hev] at this
          exact wpAnyH_lex hF hsel hs hc hn nt hd l (k + 1) _ _ _ hl' hk' (inv.set hrd hkn) hB' (by rw [put_size]; exact ha) ⟨w1, hI⟩ hS' (h.2 u ⟨w1, hI.1, (hS' w1 hI).1, (hS' w1 hI).2⟩)
        · rw [hwt] at hw'; cases hw'
      | none =>
        simp only [hb] at h
        obtain ⟨v, hv, hrest⟩ := h
        have hrel : relOf P G w0 o a = fun u _ => u = valOf P G w0 o a := by unfold relOf; rw [hb]
        have hval : valOf P G w0 o a = v := by
          obtain ⟨w, hw⟩ := hne
          have hlw := hw.lean hF hrd h0
          exact firmAt_same P (valOf_firm P G w0 hv w hlw) (hv w hlw)
        refine ⟨fun _ w hw => by rw [hrel]; exact firmAt_gives P (valOf_firm P G w0 hv w hw), fun u hu => ?_⟩
        rcases hu with ⟨_, hI, w2, hr2⟩ | ⟨hw', _⟩
        · rw [hrel, hval] at hr2
          subst hr2
          exact wpAnyH_lex hF hsel hs hc hn nt hd l (k + 1) _ _ S hl' hk' (inv.set hrd hkn) hB' (by rw [put_size]; exact ha) hI (fun w hw => hS w (hw.less hF h0 hun)) hrest
        · rw [hwt] at hw'; cases hw'
    · simp only [hwt] at h
      refine ⟨fun hw' => absurd hw' hwt, fun u hu => ?_⟩
      rcases hu with ⟨hw', _⟩ | ⟨_, rfl⟩
      · exact absurd hw' hwt
      · obtain ⟨w, hw⟩ := hne
        have hI := hw.put hF h0 (u := undef) (fun d R hd hR h => absurd rfl h)
        exact wpAnyH_lex hF hsel hs hc hn nt hd l (k + 1) _ _ S hl' hk' (inv.set hrd hkn) hB' (by rw [put_size]; exact ha) ⟨w, hI⟩ (fun w hw => hS w (hw.less hF h0 hun)) h
end

/-- The first m operations walked once; the others, which wait for them, in a row. -/
theorem wp_region_tail {P : Program} {id : Nat} {Q : Exit → Act → World → Prop} {a : Act} {w : World} {l : List Oper} (g : List (Tmp × Rel)) (nt m : Nat) (hm : P.follows .mixedOrders = true) (hB : Region.lexTailB .any l.toArray m = true)
    (hf : fedB l (g.map (·.1)) nt = true) (hn : a.tmps.size = nt) (h : wpG P l.toArray (openOf g) w (fun a' w' => wpList P l.toArray Q (l.drop m) a' w') (l.take m) a (fun _ => True)) : (Code.region id l.toArray true).wp P Q a w := by
  simp only [Region.lexTailB, Bool.and_eq_true, decide_eq_true_eq] at hB
  obtain ⟨⟨⟨⟨hsel, hn'⟩, hs⟩, hc⟩, hlex⟩ := hB
  obtain ⟨hF, hd⟩ := fedB_fed (n := nt) hf
  have hnl : m < l.length := by simpa using hn'
  have htl : (l.take m).length = m := by simp; omega
  have hdl : (l.drop m).length = l.toArray.size - m := by simp
  have hI : ∀ w', Le w w' → Inv l.toArray (openOf g) w (Array.replicate l.toArray.size false) a w' := fun w' hl => ⟨hl, fun k o d R _ hk => by
    exfalso
    rw [getD_replicate_false] at hk
    cases hk⟩
  have inv0 : HeadInv .any l.toArray m (Array.replicate l.toArray.size false) :=
    ⟨by simp, fun j oj _ hl => (by rw [getD_replicate_false] at hl; cases hl), fun t _ ht => getD_in (by simpa using ht) (getD_replicate_false _ _)⟩
  have H := wpAnyH_lex (md := .any) (g := l.toArray.size - m) hF hsel hs hc hn' nt hd (l.take m) 0 _ a (fun _ => True) (fun j hj => by
    have hj' : j < m := by rw [htl] at hj; exact hj
    simp [hj']) (by simpa using htl) inv0 (by rw [htl]; exact hlex) hn ⟨_, hI w (Le.refl w)⟩ (fun _ _ => trivial) h
  refine wp_region_any hm ?_
  have := wpAny_of_H (Q := Q) (g := l.toArray.size - m) hF (fun listed a' w' hL hw => by
    have := wpAny_of_seq (md := .any) (Q' := Q) (l.drop m) m listed a' w' (fun j => by simp [List.getElem?_drop]) (by rw [hdl]; exact hL.1) (hL.2 w' hw)
    rwa [hdl] at this) _ _ _ _ (hI { w with drawn := w.drawn + 1 } ((Below.refl _ _).drew)) H
  rw [htl, show m + (l.toArray.size - m) = l.toArray.size by omega] at this
  exact this
end Go.Proofs.Ytgkpbkedaddekaa

/- Rows as open slots of a drawn region: a new slice without room, what was appended onto it. -/
namespace Go.Proofs.Ytgkpbkedaddekaa
set_option linter.unusedVariables false
open Go Go.RowKit

end Go.Proofs.Ytgkpbkedaddekaa
