/- Cards: what a patch writes to a card, by the document: what it returns. -/
import Derived.Test.YtjlpccdlpgkgoaaCardN
namespace Go.Proofs.Ytjlpccdlpgkgoaa
set_option linter.unusedVariables false
open Go Go.RowKit BitM

set_option maxRecDepth 100000 in
set_option maxHeartbeats 3200000 in
theorem rmerge_lo (id ver lab pl : Int) (x : BitVec 32) (C P : List V3) (w : World) (hC : C.length = 8) (hP : P.length = 8) (h0 : -9223372036854775808 ≤ ver) (h1 : ver ≤ 1099511627775) :
    Calls Try.prog 25 #[.agg (ccells id ver lab C).toArray, .agg (pcells (x.toNat : Int) pl P).toArray] w fun e w' =>
      e = .returned (.agg (ccells id (ver + 1) (if has x 8 then pl else lab) (mix (fun i => has x (i : Int)) P C)).toArray) ∧ Below w.heap.size w w' := by
  have HX := Lib.hid (fun (k : Int) (wx : World) => rhas_any x k wx)
  have HLB := Lib.hid (fun wx : World => rlabels_any x wx)
  obtain ⟨nl, hnl⟩ : ∃ nl : Int, nl = (if has x 8 then pl else lab) := ⟨_, rfl⟩
  obtain ⟨nf, hnf⟩ : ∃ nf, nf = mix (fun i => has x (i : Int)) P C := ⟨_, rfl⟩
  rw [← hnl, ← hnf]
  obtain ⟨R, hR⟩ : ∃ R, R = ccells id (ver + 1) nl nf := ⟨_, rfl⟩
  have hRl : R.length = 27 := by rw [hR, ccells_len _ _ _ (by rw [hnf, mix_len])]
  have hone : ∀ v ∈ R, v.oneCell' = true := by rw [hR]; exact ccells_one _ _ _ _
  rw [← hR]
  have HR0 := Lib.hid hR
  have HRL := Lib.hid hRl
  have HNL := Lib.hid hnl
  have HNF := Lib.hid hnf
  have HC := Lib.hid hC
  have HP := Lib.hid hP
  obtain ⟨cc, hcc⟩ : ∃ cc, cc = ccells id ver lab C := ⟨_, rfl⟩
  have hcl : cc.length = 27 := by rw [hcc]; exact ccells_len _ _ _ hC
  have B0 := Blk.new w cc 32
  rw [← hcc]
  have B1 := Blk.new (w.alloc (.cells cc.toArray 32)) (pcells (x.toNat : Int) pl P) 34
  obtain ⟨pa, hpa⟩ : ∃ pa, pa = (pcells (x.toNat : Int) pl P).toArray := ⟨_, rfl⟩
  rw [← hpa] at B1 ⊢
  have B2 := Blk.new ((w.alloc (.cells cc.toArray 32)).alloc (.cells pa 34)) (ccells 0 0 0 zeros) 32
  have B3 := Blk.new (((w.alloc (.cells cc.toArray 32)).alloc (.cells pa 34)).alloc (.cells (ccells 0 0 0 zeros).toArray 32)) (ccells 0 0 0 zeros) 32
  have hw0 := ((((Below.refl w.heap.size w).alloc (Nat.le_refl _) (.cells cc.toArray 32)).alloc (by simp) (.cells pa 34)).alloc (by simp; omega) (.cells (ccells 0 0 0 zeros).toArray 32)).alloc (by simp; omega) (.cells (ccells 0 0 0 zeros).toArray 32)
  have A0 := (B0.alloc (.cells pa 34)).alloc (.cells (ccells 0 0 0 zeros).toArray 32)
  have RG0 := A0.wholeC
  replace B0 := A0.alloc (.cells (ccells 0 0 0 zeros).toArray 32)
  replace B1 := (B1.alloc (.cells (ccells 0 0 0 zeros).toArray 32)).alloc (.cells (ccells 0 0 0 zeros).toArray 32)
  replace B2 := B2.alloc (.cells (ccells 0 0 0 zeros).toArray 32)
  have hs1 : (w.alloc (.cells cc.toArray 32)).heap.size = w.heap.size + 1 := by simp
  have hs2 : ((w.alloc (.cells cc.toArray 32)).alloc (.cells pa 34)).heap.size = w.heap.size + 2 := by simp
  have hs3 : (((w.alloc (.cells cc.toArray 32)).alloc (.cells pa 34)).alloc (.cells (ccells 0 0 0 zeros).toArray 32)).heap.size = w.heap.size + 3 := by simp
  rw [hs1] at B1
  rw [hs2] at B2
  rw [hs3] at B3
  generalize hW : ((((w.alloc (.cells cc.toArray 32)).alloc (.cells pa 34)).alloc (.cells (ccells 0 0 0 zeros).toArray 32)).alloc (.cells (ccells 0 0 0 zeros).toArray 32)) = W at *
  have C3 := B3.whole (ds := cc) (by rw [hcl, ccells_len 0 0 0 zeros_len])
  have C0 := Blk.setsOther (b := w.heap.size + 3) (g := w.heap.size) (by omega) cc 0 B0
  have C1 := Blk.setsOther (b := w.heap.size + 3) (g := w.heap.size + 1) (by omega) cc 0 B1
  have C2 := Blk.setsOther (b := w.heap.size + 3) (g := w.heap.size + 2) (by omega) cc 0 B2
  have CB := below_sets (B := w.heap.size) (b := w.heap.size + 3) (by omega) cc 0 hw0
  have TH := B3.there 0 27 (by rw [ccells_len 0 0 0 zeros_len]; omega)
  have hone0 : ∀ v ∈ cc, v.oneCell' = true := by rw [hcc]; exact ccells_one _ _ _ _
  have HCL := Lib.hid hcl
  obtain ⟨W2, hW2⟩ : ∃ W2, W2 = W.setCells (w.heap.size + 3) 0 cc := ⟨_, rfl⟩
  rw [← hW2] at C0 C1 C2 C3 CB
  rw [hcc] at C0 C3
  obtain ⟨q0, q1, q2⟩ := C0.card
  obtain ⟨p0, p1, p2⟩ := C3.card
  have fl := C3.frozen 1
  have E3 := C3.putVer (ver + 1)
  have E1 := C1.setOther (b := w.heap.size + 3) 1 (.int .i64 (ver + 1)) (by omega)
  have E2 := C2.setOther (b := w.heap.size + 3) 1 (.int .i64 (ver + 1)) (by omega)
  have EB := below_set (B := w.heap.size) (b := w.heap.size + 3) (by omega) CB 1 (.int .i64 (ver + 1))
  obtain ⟨m0, m1⟩ := E1.patch
  rw [hW2] at q1 p1 fl m0
  rw [zc27] at hW RG0
  have HW := Lib.hid hW
  have HW2 := Lib.hid hW2
  rw [← hW] at TH q1 p1 fl m0
  have HE1 := Lib.hid E1
  have HE2 := Lib.hid E2
  have HE3 := Lib.hid E3
  have HEB := Lib.hid EB
  have hu := Try.underlying32
  clear hnl hnf hR hRl hcc hcl hpa hs1 hs2 hs3 hW hW2 hw0 A0 B0 B1 B2 B3 C0 C1 C2 C3 CB E1 E2 E3 EB hC hP q0 q2 p0 p2 m1
  go_enter Try.func25, Try.ntmps25
  go_wp2_with (first
    | (refine wpList_load_mid rfl 32 (.tmp 2) rfl w.heap.size 0 rfl cc _ RG0 hu rfl (by rw [HCL.out]; exact info_card) ?_)
    | (refine wpList_store_mid rfl 32 (.tmp 5) (.tmp 7) rfl (w.heap.size + 3) 0 cc.toArray rfl rfl (by simpa [HCL.out] using TH) (by simpa [HCL.out] using info_card) (all_oneCell_toArray hone0) ?_))
  rw [HW.out, ← HW2.out]
  clear q1 p1 fl m0 RG0 TH
  refine (HLB.out _).mono ?_
  rintro e w' ⟨rfl, rfl⟩
  have C1 := HE1.out
  have C2 := HE2.out
  have C3 := HE3.out
  have hbw := HEB.out
  clear HE1 HE2 HE3 HEB HW HW2
  cases h8 : has x 8 with
  | true =>
    have HR : Hid (R = ccells id (ver + 1) pl nf) := Lib.hid (by rw [HR0.out, HNL.out, h8]; rfl)
    clear h8 HR0
    obtain ⟨q0, q1⟩ := C1.patch
    obtain ⟨p0, p1, p2⟩ := C3.card
    have fl := C3.frozen 2
    have E3 := C3.putLab pl
    have E1 := C1.setOther (b := w.heap.size + 3) 2 (.int .u32 pl) (by omega)
    have E2 := C2.setOther (b := w.heap.size + 3) 2 (.int .u32 pl) (by omega)
    have EB := below_set (B := w.heap.size) (b := w.heap.size + 3) (by omega) hbw 2 (.int .u32 pl)
    clear C1 C2 C3 hbw
    go_wp2_with fail
    clear q0 q1 p0 p1 p2 fl
    have C1 := E1
    have C2 := E2
    have C3 := E3
    have hbw := EB
    clear E1 E2 E3 EB
    go_loopw [6] (fun i wr => ∃ k : Nat, k ≤ 8 ∧ i = .int .i64 k ∧ Blk wr (w.heap.size + 1) (pcells (x.toNat : Int) pl P) ∧ Blk wr (w.heap.size + 2) (ccells 0 0 0 zeros) ∧ Blk wr (w.heap.size + 3) (ccells id (ver + 1) pl (mix (pk x k) P C)) ∧ Below w.heap.size w wr) (fun i _ => 8 - (intOf i).toNat)
    case atStart => exact ⟨0, by omega, rfl, C1, C2, by rw [pk_none x P C HC.out]; exact C3, hbw⟩
    case round =>
      obtain ⟨k, hk, rfl, D1, D2, D3, hbr⟩ := hrel
      clear C1 C2 C3 hbw
      by_cases hlt : k < 8
      · have d8 : (k : Int) < 8 := by omega
        have hks : k < P.length := by rw [HP.out]; exact hlt
        cases hx : has x (k : Int) with
        | false =>
          have H1 := Lib.hid (HX.out (k : Int) wr)
          rw [hx] at H1
          have hm : mix (pk x (k + 1)) P C = mix (pk x k) P C := mix_congr _ _ (fun i _ => pk_no x k i hx)
          have HMM := Lib.hid hm
          obtain ⟨r0, r1⟩ := D1.patch
          clear hx hm
          go_wp2_with fail
          refine H1.out.mono ?_
          rintro e w' ⟨rfl, rfl⟩
          clear r0 r1
          go_wp2_with fail
          go_roundw
          case rel => exact ⟨k + 1, by omega, by go_num, D1, D2, by rw [HMM.out]; exact D3, hbr⟩
          case measure => simp [intOf]; omega
        | true =>
          have H1 := Lib.hid (HX.out (k : Int) wr)
          rw [hx] at H1
          have hm : mix (pk x (k + 1)) P C = mix (fun i => pk x k i || i == k) P C := mix_congr _ _ (fun i _ => pk_yes x k i hx)
          obtain ⟨l0, l1, l2⟩ := Blk.field (o := 2) D1 k rfl hks
          obtain ⟨s0, s1, s2⟩ := Blk.field (o := 3) D3 k rfl (by rw [mix_len]; exact hlt)
          have f0 := D3.frozen (3 + k * 3)
          have f1 := D3.frozen (3 + k * 3 + 1)
          have f2 := D3.frozen (3 + k * 3 + 2)
          have ED := blk_field (w := wr) (g := w.heap.size + 3) (pk x k) P C [.int .i64 id, .int .i64 ((ver + 1)), .int .u32 pl] k hlt hks D3
          rw [← hm] at ED
          have E1 := Blk.setsOther (b := w.heap.size + 3) (g := w.heap.size + 1) (by omega) (vcells P[k]) (3 + k * 3) D1
          have E2 := Blk.setsOther (b := w.heap.size + 3) (g := w.heap.size + 2) (by omega) (vcells P[k]) (3 + k * 3) D2
          have EB := below_sets (B := w.heap.size) (b := w.heap.size + 3) (by omega) (vcells P[k]) (3 + k * 3) hbr
          obtain ⟨r0, r1⟩ := D1.patch
          obtain ⟨v, hv⟩ : ∃ v, v = P[k] := ⟨_, rfl⟩
          rw [← hv] at l0 l1 l2 ED EB E1 E2
          obtain ⟨v0, v1, v2⟩ := v
          simp only at l0 l1 l2
          have RR : Hid (Blk (wr.setCells (w.heap.size + 3) (3 + k * 3) (vcells (v0, v1, v2))) (w.heap.size + 3) (ccells (id) ((ver + 1)) (pl) (mix (pk x (k + 1)) P C)) ∧ Below w.heap.size w (wr.setCells (w.heap.size + 3) (3 + k * 3) (vcells (v0, v1, v2)))) := ⟨ED, EB⟩
          have HO1 := Lib.hid E1
          have HO2 := Lib.hid E2
          clear hx hm hv ED EB E1 E2
          go_wp2_with fail
          refine H1.out.mono ?_
          rintro e w' ⟨rfl, rfl⟩
          clear r0 r1
          go_wp2_with fail
          go_roundw
          case rel => exact ⟨k + 1, by omega, by go_num, HO1.out, HO2.out, RR.out.1, RR.out.2⟩
          case measure => simp [intOf]; omega
      · obtain rfl : k = 8 := by omega
        have hz : mix (pk x 8) P C = mix (fun i => has x (i : Int)) P C := pk_all x P C
        rw [hz, ← HNF.out, ← HR.out] at D3
        clear hz
        have RG := D3.wholeC
        have TH := D2.there 0 27 (by rw [ccells_len 0 0 0 zeros_len]; omega)
        have FIN := D2.whole (ds := R) (by rw [HRL.out, ccells_len 0 0 0 zeros_len])
        have FB := below_sets (B := w.heap.size) (b := w.heap.size + 2) (by omega) R 0 hbr
        clear D1 D2 D3 hbr
        go_wp2_with (first
          | (refine wpList_load_mid rfl 32 (.tmp 5) rfl (w.heap.size + 3) 0 rfl R _ RG hu rfl (by rw [HRL.out]; exact info_card) ?_)
          | (refine wpList_store_mid rfl 32 (.tmp 4) (.tmp 34) rfl (w.heap.size + 2) 0 R.toArray rfl rfl (by simpa [HRL.out] using TH) (by simpa [HRL.out] using info_card) (all_oneCell_toArray hone) ?_))
        exact bodyPost_ret (v := .agg R.toArray) (results_blk (q := 4) rfl _ _ (w.heap.size + 2) R _ rfl FIN hu rfl (by rw [HRL.out]; exact info_card)) rfl ⟨rfl, FB⟩
  | false =>
    have HR : Hid (R = ccells id (ver + 1) lab nf) := Lib.hid (by rw [HR0.out, HNL.out, h8]; rfl)
    clear h8 HR0
    go_wp2_with fail
    go_loopw [6] (fun i wr => ∃ k : Nat, k ≤ 8 ∧ i = .int .i64 k ∧ Blk wr (w.heap.size + 1) (pcells (x.toNat : Int) pl P) ∧ Blk wr (w.heap.size + 2) (ccells 0 0 0 zeros) ∧ Blk wr (w.heap.size + 3) (ccells id (ver + 1) lab (mix (pk x k) P C)) ∧ Below w.heap.size w wr) (fun i _ => 8 - (intOf i).toNat)
    case atStart => exact ⟨0, by omega, rfl, C1, C2, by rw [pk_none x P C HC.out]; exact C3, hbw⟩
    case round =>
      obtain ⟨k, hk, rfl, D1, D2, D3, hbr⟩ := hrel
      clear C1 C2 C3 hbw
      by_cases hlt : k < 8
      · have d8 : (k : Int) < 8 := by omega
        have hks : k < P.length := by rw [HP.out]; exact hlt
        cases hx : has x (k : Int) with
        | false =>
          have H1 := Lib.hid (HX.out (k : Int) wr)
          rw [hx] at H1
          have hm : mix (pk x (k + 1)) P C = mix (pk x k) P C := mix_congr _ _ (fun i _ => pk_no x k i hx)
          have HMM := Lib.hid hm
          obtain ⟨r0, r1⟩ := D1.patch
          clear hx hm
          go_wp2_with fail
          refine H1.out.mono ?_
          rintro e w' ⟨rfl, rfl⟩
          clear r0 r1
          go_wp2_with fail
          go_roundw
          case rel => exact ⟨k + 1, by omega, by go_num, D1, D2, by rw [HMM.out]; exact D3, hbr⟩
          case measure => simp [intOf]; omega
        | true =>
          have H1 := Lib.hid (HX.out (k : Int) wr)
          rw [hx] at H1
          have hm : mix (pk x (k + 1)) P C = mix (fun i => pk x k i || i == k) P C := mix_congr _ _ (fun i _ => pk_yes x k i hx)
          obtain ⟨l0, l1, l2⟩ := Blk.field (o := 2) D1 k rfl hks
          obtain ⟨s0, s1, s2⟩ := Blk.field (o := 3) D3 k rfl (by rw [mix_len]; exact hlt)
          have f0 := D3.frozen (3 + k * 3)
          have f1 := D3.frozen (3 + k * 3 + 1)
          have f2 := D3.frozen (3 + k * 3 + 2)
          have ED := blk_field (w := wr) (g := w.heap.size + 3) (pk x k) P C [.int .i64 id, .int .i64 ((ver + 1)), .int .u32 lab] k hlt hks D3
          rw [← hm] at ED
          have E1 := Blk.setsOther (b := w.heap.size + 3) (g := w.heap.size + 1) (by omega) (vcells P[k]) (3 + k * 3) D1
          have E2 := Blk.setsOther (b := w.heap.size + 3) (g := w.heap.size + 2) (by omega) (vcells P[k]) (3 + k * 3) D2
          have EB := below_sets (B := w.heap.size) (b := w.heap.size + 3) (by omega) (vcells P[k]) (3 + k * 3) hbr
          obtain ⟨r0, r1⟩ := D1.patch
          obtain ⟨v, hv⟩ : ∃ v, v = P[k] := ⟨_, rfl⟩
          rw [← hv] at l0 l1 l2 ED EB E1 E2
          obtain ⟨v0, v1, v2⟩ := v
          simp only at l0 l1 l2
          have RR : Hid (Blk (wr.setCells (w.heap.size + 3) (3 + k * 3) (vcells (v0, v1, v2))) (w.heap.size + 3) (ccells (id) ((ver + 1)) (lab) (mix (pk x (k + 1)) P C)) ∧ Below w.heap.size w (wr.setCells (w.heap.size + 3) (3 + k * 3) (vcells (v0, v1, v2)))) := ⟨ED, EB⟩
          have HO1 := Lib.hid E1
          have HO2 := Lib.hid E2
          clear hx hm hv ED EB E1 E2
          go_wp2_with fail
          refine H1.out.mono ?_
          rintro e w' ⟨rfl, rfl⟩
          clear r0 r1
          go_wp2_with fail
          go_roundw
          case rel => exact ⟨k + 1, by omega, by go_num, HO1.out, HO2.out, RR.out.1, RR.out.2⟩
          case measure => simp [intOf]; omega
      · obtain rfl : k = 8 := by omega
        have hz : mix (pk x 8) P C = mix (fun i => has x (i : Int)) P C := pk_all x P C
        rw [hz, ← HNF.out, ← HR.out] at D3
        clear hz
        have RG := D3.wholeC
        have TH := D2.there 0 27 (by rw [ccells_len 0 0 0 zeros_len]; omega)
        have FIN := D2.whole (ds := R) (by rw [HRL.out, ccells_len 0 0 0 zeros_len])
        have FB := below_sets (B := w.heap.size) (b := w.heap.size + 2) (by omega) R 0 hbr
        clear D1 D2 D3 hbr
        go_wp2_with (first
          | (refine wpList_load_mid rfl 32 (.tmp 5) rfl (w.heap.size + 3) 0 rfl R _ RG hu rfl (by rw [HRL.out]; exact info_card) ?_)
          | (refine wpList_store_mid rfl 32 (.tmp 4) (.tmp 34) rfl (w.heap.size + 2) 0 R.toArray rfl rfl (by simpa [HRL.out] using TH) (by simpa [HRL.out] using info_card) (all_oneCell_toArray hone) ?_))
        exact bodyPost_ret (v := .agg R.toArray) (results_blk (q := 4) rfl _ _ (w.heap.size + 2) R _ rfl FIN hu rfl (by rw [HRL.out]; exact info_card)) rfl ⟨rfl, FB⟩

set_option maxRecDepth 100000 in
set_option maxHeartbeats 3200000 in
theorem rmerge_hi (id ver lab pl : Int) (x : BitVec 32) (C P : List V3) (w : World) (hC : C.length = 8) (hP : P.length = 8) (h0 : 1099511627775 < ver) (h1 : ver ≤ 9223372036854775807) :
    Calls Try.prog 25 #[.agg (ccells id ver lab C).toArray, .agg (pcells (x.toNat : Int) pl P).toArray] w fun e w' =>
      e = .returned (.agg (ccells id (1099511627776) (if has x 8 then pl else lab) (mix (fun i => has x (i : Int)) P C)).toArray) ∧ Below w.heap.size w w' := by
  have HX := Lib.hid (fun (k : Int) (wx : World) => rhas_any x k wx)
  have HLB := Lib.hid (fun wx : World => rlabels_any x wx)
  obtain ⟨nl, hnl⟩ : ∃ nl : Int, nl = (if has x 8 then pl else lab) := ⟨_, rfl⟩
  obtain ⟨nf, hnf⟩ : ∃ nf, nf = mix (fun i => has x (i : Int)) P C := ⟨_, rfl⟩
  rw [← hnl, ← hnf]
  obtain ⟨R, hR⟩ : ∃ R, R = ccells id (1099511627776) nl nf := ⟨_, rfl⟩
  have hRl : R.length = 27 := by rw [hR, ccells_len _ _ _ (by rw [hnf, mix_len])]
  have hone : ∀ v ∈ R, v.oneCell' = true := by rw [hR]; exact ccells_one _ _ _ _
  rw [← hR]
  have HR0 := Lib.hid hR
  have HRL := Lib.hid hRl
  have HNL := Lib.hid hnl
  have HNF := Lib.hid hnf
  have HC := Lib.hid hC
  have HP := Lib.hid hP
  obtain ⟨cc, hcc⟩ : ∃ cc, cc = ccells id ver lab C := ⟨_, rfl⟩
  have hcl : cc.length = 27 := by rw [hcc]; exact ccells_len _ _ _ hC
  have B0 := Blk.new w cc 32
  rw [← hcc]
  have B1 := Blk.new (w.alloc (.cells cc.toArray 32)) (pcells (x.toNat : Int) pl P) 34
  obtain ⟨pa, hpa⟩ : ∃ pa, pa = (pcells (x.toNat : Int) pl P).toArray := ⟨_, rfl⟩
  rw [← hpa] at B1 ⊢
  have B2 := Blk.new ((w.alloc (.cells cc.toArray 32)).alloc (.cells pa 34)) (ccells 0 0 0 zeros) 32
  have B3 := Blk.new (((w.alloc (.cells cc.toArray 32)).alloc (.cells pa 34)).alloc (.cells (ccells 0 0 0 zeros).toArray 32)) (ccells 0 0 0 zeros) 32
  have hw0 := ((((Below.refl w.heap.size w).alloc (Nat.le_refl _) (.cells cc.toArray 32)).alloc (by simp) (.cells pa 34)).alloc (by simp; omega) (.cells (ccells 0 0 0 zeros).toArray 32)).alloc (by simp; omega) (.cells (ccells 0 0 0 zeros).toArray 32)
  have A0 := (B0.alloc (.cells pa 34)).alloc (.cells (ccells 0 0 0 zeros).toArray 32)
  have RG0 := A0.wholeC
  replace B0 := A0.alloc (.cells (ccells 0 0 0 zeros).toArray 32)
  replace B1 := (B1.alloc (.cells (ccells 0 0 0 zeros).toArray 32)).alloc (.cells (ccells 0 0 0 zeros).toArray 32)
  replace B2 := B2.alloc (.cells (ccells 0 0 0 zeros).toArray 32)
  have hs1 : (w.alloc (.cells cc.toArray 32)).heap.size = w.heap.size + 1 := by simp
  have hs2 : ((w.alloc (.cells cc.toArray 32)).alloc (.cells pa 34)).heap.size = w.heap.size + 2 := by simp
  have hs3 : (((w.alloc (.cells cc.toArray 32)).alloc (.cells pa 34)).alloc (.cells (ccells 0 0 0 zeros).toArray 32)).heap.size = w.heap.size + 3 := by simp
  rw [hs1] at B1
  rw [hs2] at B2
  rw [hs3] at B3
  generalize hW : ((((w.alloc (.cells cc.toArray 32)).alloc (.cells pa 34)).alloc (.cells (ccells 0 0 0 zeros).toArray 32)).alloc (.cells (ccells 0 0 0 zeros).toArray 32)) = W at *
  have C3 := B3.whole (ds := cc) (by rw [hcl, ccells_len 0 0 0 zeros_len])
  have C0 := Blk.setsOther (b := w.heap.size + 3) (g := w.heap.size) (by omega) cc 0 B0
  have C1 := Blk.setsOther (b := w.heap.size + 3) (g := w.heap.size + 1) (by omega) cc 0 B1
  have C2 := Blk.setsOther (b := w.heap.size + 3) (g := w.heap.size + 2) (by omega) cc 0 B2
  have CB := below_sets (B := w.heap.size) (b := w.heap.size + 3) (by omega) cc 0 hw0
  have TH := B3.there 0 27 (by rw [ccells_len 0 0 0 zeros_len]; omega)
  have hone0 : ∀ v ∈ cc, v.oneCell' = true := by rw [hcc]; exact ccells_one _ _ _ _
  have HCL := Lib.hid hcl
  obtain ⟨W2, hW2⟩ : ∃ W2, W2 = W.setCells (w.heap.size + 3) 0 cc := ⟨_, rfl⟩
  rw [← hW2] at C0 C1 C2 C3 CB
  rw [hcc] at C0 C3
  obtain ⟨q0, q1, q2⟩ := C0.card
  obtain ⟨p0, p1, p2⟩ := C3.card
  have fl := C3.frozen 1
  have E3 := C3.putVer (1099511627776)
  have E1 := C1.setOther (b := w.heap.size + 3) 1 (.int .i64 (1099511627776)) (by omega)
  have E2 := C2.setOther (b := w.heap.size + 3) 1 (.int .i64 (1099511627776)) (by omega)
  have EB := below_set (B := w.heap.size) (b := w.heap.size + 3) (by omega) CB 1 (.int .i64 (1099511627776))
  obtain ⟨m0, m1⟩ := E1.patch
  rw [hW2] at q1 p1 fl m0
  rw [zc27] at hW RG0
  have HW := Lib.hid hW
  have HW2 := Lib.hid hW2
  rw [← hW] at TH q1 p1 fl m0
  have HE1 := Lib.hid E1
  have HE2 := Lib.hid E2
  have HE3 := Lib.hid E3
  have HEB := Lib.hid EB
  have hu := Try.underlying32
  clear hnl hnf hR hRl hcc hcl hpa hs1 hs2 hs3 hW hW2 hw0 A0 B0 B1 B2 B3 C0 C1 C2 C3 CB E1 E2 E3 EB hC hP q0 q2 p0 p2 m1
  go_enter Try.func25, Try.ntmps25
  go_wp2_with (first
    | (refine wpList_load_mid rfl 32 (.tmp 2) rfl w.heap.size 0 rfl cc _ RG0 hu rfl (by rw [HCL.out]; exact info_card) ?_)
    | (refine wpList_store_mid rfl 32 (.tmp 5) (.tmp 7) rfl (w.heap.size + 3) 0 cc.toArray rfl rfl (by simpa [HCL.out] using TH) (by simpa [HCL.out] using info_card) (all_oneCell_toArray hone0) ?_))
  rw [HW.out, ← HW2.out]
  clear q1 p1 fl m0 RG0 TH
  refine (HLB.out _).mono ?_
  rintro e w' ⟨rfl, rfl⟩
  have C1 := HE1.out
  have C2 := HE2.out
  have C3 := HE3.out
  have hbw := HEB.out
  clear HE1 HE2 HE3 HEB HW HW2
  cases h8 : has x 8 with
  | true =>
    have HR : Hid (R = ccells id (1099511627776) pl nf) := Lib.hid (by rw [HR0.out, HNL.out, h8]; rfl)
    clear h8 HR0
    obtain ⟨q0, q1⟩ := C1.patch
    obtain ⟨p0, p1, p2⟩ := C3.card
    have fl := C3.frozen 2
    have E3 := C3.putLab pl
    have E1 := C1.setOther (b := w.heap.size + 3) 2 (.int .u32 pl) (by omega)
    have E2 := C2.setOther (b := w.heap.size + 3) 2 (.int .u32 pl) (by omega)
    have EB := below_set (B := w.heap.size) (b := w.heap.size + 3) (by omega) hbw 2 (.int .u32 pl)
    clear C1 C2 C3 hbw
    go_wp2_with fail
    clear q0 q1 p0 p1 p2 fl
    have C1 := E1
    have C2 := E2
    have C3 := E3
    have hbw := EB
    clear E1 E2 E3 EB
    go_loopw [6] (fun i wr => ∃ k : Nat, k ≤ 8 ∧ i = .int .i64 k ∧ Blk wr (w.heap.size + 1) (pcells (x.toNat : Int) pl P) ∧ Blk wr (w.heap.size + 2) (ccells 0 0 0 zeros) ∧ Blk wr (w.heap.size + 3) (ccells id (1099511627776) pl (mix (pk x k) P C)) ∧ Below w.heap.size w wr) (fun i _ => 8 - (intOf i).toNat)
    case atStart => exact ⟨0, by omega, rfl, C1, C2, by rw [pk_none x P C HC.out]; exact C3, hbw⟩
    case round =>
      obtain ⟨k, hk, rfl, D1, D2, D3, hbr⟩ := hrel
      clear C1 C2 C3 hbw
      by_cases hlt : k < 8
      · have d8 : (k : Int) < 8 := by omega
        have hks : k < P.length := by rw [HP.out]; exact hlt
        cases hx : has x (k : Int) with
        | false =>
          have H1 := Lib.hid (HX.out (k : Int) wr)
          rw [hx] at H1
          have hm : mix (pk x (k + 1)) P C = mix (pk x k) P C := mix_congr _ _ (fun i _ => pk_no x k i hx)
          have HMM := Lib.hid hm
          obtain ⟨r0, r1⟩ := D1.patch
          clear hx hm
          go_wp2_with fail
          refine H1.out.mono ?_
          rintro e w' ⟨rfl, rfl⟩
          clear r0 r1
          go_wp2_with fail
          go_roundw
          case rel => exact ⟨k + 1, by omega, by go_num, D1, D2, by rw [HMM.out]; exact D3, hbr⟩
          case measure => simp [intOf]; omega
        | true =>
          have H1 := Lib.hid (HX.out (k : Int) wr)
          rw [hx] at H1
          have hm : mix (pk x (k + 1)) P C = mix (fun i => pk x k i || i == k) P C := mix_congr _ _ (fun i _ => pk_yes x k i hx)
          obtain ⟨l0, l1, l2⟩ := Blk.field (o := 2) D1 k rfl hks
          obtain ⟨s0, s1, s2⟩ := Blk.field (o := 3) D3 k rfl (by rw [mix_len]; exact hlt)
          have f0 := D3.frozen (3 + k * 3)
          have f1 := D3.frozen (3 + k * 3 + 1)
          have f2 := D3.frozen (3 + k * 3 + 2)
          have ED := blk_field (w := wr) (g := w.heap.size + 3) (pk x k) P C [.int .i64 id, .int .i64 ((1099511627776)), .int .u32 pl] k hlt hks D3
          rw [← hm] at ED
          have E1 := Blk.setsOther (b := w.heap.size + 3) (g := w.heap.size + 1) (by omega) (vcells P[k]) (3 + k * 3) D1
          have E2 := Blk.setsOther (b := w.heap.size + 3) (g := w.heap.size + 2) (by omega) (vcells P[k]) (3 + k * 3) D2
          have EB := below_sets (B := w.heap.size) (b := w.heap.size + 3) (by omega) (vcells P[k]) (3 + k * 3) hbr
          obtain ⟨r0, r1⟩ := D1.patch
          obtain ⟨v, hv⟩ : ∃ v, v = P[k] := ⟨_, rfl⟩
          rw [← hv] at l0 l1 l2 ED EB E1 E2
          obtain ⟨v0, v1, v2⟩ := v
          simp only at l0 l1 l2
          have RR : Hid (Blk (wr.setCells (w.heap.size + 3) (3 + k * 3) (vcells (v0, v1, v2))) (w.heap.size + 3) (ccells (id) ((1099511627776)) (pl) (mix (pk x (k + 1)) P C)) ∧ Below w.heap.size w (wr.setCells (w.heap.size + 3) (3 + k * 3) (vcells (v0, v1, v2)))) := ⟨ED, EB⟩
          have HO1 := Lib.hid E1
          have HO2 := Lib.hid E2
          clear hx hm hv ED EB E1 E2
          go_wp2_with fail
          refine H1.out.mono ?_
          rintro e w' ⟨rfl, rfl⟩
          clear r0 r1
          go_wp2_with fail
          go_roundw
          case rel => exact ⟨k + 1, by omega, by go_num, HO1.out, HO2.out, RR.out.1, RR.out.2⟩
          case measure => simp [intOf]; omega
      · obtain rfl : k = 8 := by omega
        have hz : mix (pk x 8) P C = mix (fun i => has x (i : Int)) P C := pk_all x P C
        rw [hz, ← HNF.out, ← HR.out] at D3
        clear hz
        have RG := D3.wholeC
        have TH := D2.there 0 27 (by rw [ccells_len 0 0 0 zeros_len]; omega)
        have FIN := D2.whole (ds := R) (by rw [HRL.out, ccells_len 0 0 0 zeros_len])
        have FB := below_sets (B := w.heap.size) (b := w.heap.size + 2) (by omega) R 0 hbr
        clear D1 D2 D3 hbr
        go_wp2_with (first
          | (refine wpList_load_mid rfl 32 (.tmp 5) rfl (w.heap.size + 3) 0 rfl R _ RG hu rfl (by rw [HRL.out]; exact info_card) ?_)
          | (refine wpList_store_mid rfl 32 (.tmp 4) (.tmp 34) rfl (w.heap.size + 2) 0 R.toArray rfl rfl (by simpa [HRL.out] using TH) (by simpa [HRL.out] using info_card) (all_oneCell_toArray hone) ?_))
        exact bodyPost_ret (v := .agg R.toArray) (results_blk (q := 4) rfl _ _ (w.heap.size + 2) R _ rfl FIN hu rfl (by rw [HRL.out]; exact info_card)) rfl ⟨rfl, FB⟩
  | false =>
    have HR : Hid (R = ccells id (1099511627776) lab nf) := Lib.hid (by rw [HR0.out, HNL.out, h8]; rfl)
    clear h8 HR0
    go_wp2_with fail
    go_loopw [6] (fun i wr => ∃ k : Nat, k ≤ 8 ∧ i = .int .i64 k ∧ Blk wr (w.heap.size + 1) (pcells (x.toNat : Int) pl P) ∧ Blk wr (w.heap.size + 2) (ccells 0 0 0 zeros) ∧ Blk wr (w.heap.size + 3) (ccells id (1099511627776) lab (mix (pk x k) P C)) ∧ Below w.heap.size w wr) (fun i _ => 8 - (intOf i).toNat)
    case atStart => exact ⟨0, by omega, rfl, C1, C2, by rw [pk_none x P C HC.out]; exact C3, hbw⟩
    case round =>
      obtain ⟨k, hk, rfl, D1, D2, D3, hbr⟩ := hrel
      clear C1 C2 C3 hbw
      by_cases hlt : k < 8
      · have d8 : (k : Int) < 8 := by omega
        have hks : k < P.length := by rw [HP.out]; exact hlt
        cases hx : has x (k : Int) with
        | false =>
          have H1 := Lib.hid (HX.out (k : Int) wr)
          rw [hx] at H1
          have hm : mix (pk x (k + 1)) P C = mix (pk x k) P C := mix_congr _ _ (fun i _ => pk_no x k i hx)
          have HMM := Lib.hid hm
          obtain ⟨r0, r1⟩ := D1.patch
          clear hx hm
          go_wp2_with fail
          refine H1.out.mono ?_
          rintro e w' ⟨rfl, rfl⟩
          clear r0 r1
          go_wp2_with fail
          go_roundw
          case rel => exact ⟨k + 1, by omega, by go_num, D1, D2, by rw [HMM.out]; exact D3, hbr⟩
          case measure => simp [intOf]; omega
        | true =>
          have H1 := Lib.hid (HX.out (k : Int) wr)
          rw [hx] at H1
          have hm : mix (pk x (k + 1)) P C = mix (fun i => pk x k i || i == k) P C := mix_congr _ _ (fun i _ => pk_yes x k i hx)
          obtain ⟨l0, l1, l2⟩ := Blk.field (o := 2) D1 k rfl hks
          obtain ⟨s0, s1, s2⟩ := Blk.field (o := 3) D3 k rfl (by rw [mix_len]; exact hlt)
          have f0 := D3.frozen (3 + k * 3)
          have f1 := D3.frozen (3 + k * 3 + 1)
          have f2 := D3.frozen (3 + k * 3 + 2)
          have ED := blk_field (w := wr) (g := w.heap.size + 3) (pk x k) P C [.int .i64 id, .int .i64 ((1099511627776)), .int .u32 lab] k hlt hks D3
          rw [← hm] at ED
          have E1 := Blk.setsOther (b := w.heap.size + 3) (g := w.heap.size + 1) (by omega) (vcells P[k]) (3 + k * 3) D1
          have E2 := Blk.setsOther (b := w.heap.size + 3) (g := w.heap.size + 2) (by omega) (vcells P[k]) (3 + k * 3) D2
          have EB := below_sets (B := w.heap.size) (b := w.heap.size + 3) (by omega) (vcells P[k]) (3 + k * 3) hbr
          obtain ⟨r0, r1⟩ := D1.patch
          obtain ⟨v, hv⟩ : ∃ v, v = P[k] := ⟨_, rfl⟩
          rw [← hv] at l0 l1 l2 ED EB E1 E2
          obtain ⟨v0, v1, v2⟩ := v
          simp only at l0 l1 l2
          have RR : Hid (Blk (wr.setCells (w.heap.size + 3) (3 + k * 3) (vcells (v0, v1, v2))) (w.heap.size + 3) (ccells (id) ((1099511627776)) (lab) (mix (pk x (k + 1)) P C)) ∧ Below w.heap.size w (wr.setCells (w.heap.size + 3) (3 + k * 3) (vcells (v0, v1, v2)))) := ⟨ED, EB⟩
          have HO1 := Lib.hid E1
          have HO2 := Lib.hid E2
          clear hx hm hv ED EB E1 E2
          go_wp2_with fail
          refine H1.out.mono ?_
          rintro e w' ⟨rfl, rfl⟩
          clear r0 r1
          go_wp2_with fail
          go_roundw
          case rel => exact ⟨k + 1, by omega, by go_num, HO1.out, HO2.out, RR.out.1, RR.out.2⟩
          case measure => simp [intOf]; omega
      · obtain rfl : k = 8 := by omega
        have hz : mix (pk x 8) P C = mix (fun i => has x (i : Int)) P C := pk_all x P C
        rw [hz, ← HNF.out, ← HR.out] at D3
        clear hz
        have RG := D3.wholeC
        have TH := D2.there 0 27 (by rw [ccells_len 0 0 0 zeros_len]; omega)
        have FIN := D2.whole (ds := R) (by rw [HRL.out, ccells_len 0 0 0 zeros_len])
        have FB := below_sets (B := w.heap.size) (b := w.heap.size + 2) (by omega) R 0 hbr
        clear D1 D2 D3 hbr
        go_wp2_with (first
          | (refine wpList_load_mid rfl 32 (.tmp 5) rfl (w.heap.size + 3) 0 rfl R _ RG hu rfl (by rw [HRL.out]; exact info_card) ?_)
          | (refine wpList_store_mid rfl 32 (.tmp 4) (.tmp 34) rfl (w.heap.size + 2) 0 R.toArray rfl rfl (by simpa [HRL.out] using TH) (by simpa [HRL.out] using info_card) (all_oneCell_toArray hone) ?_))
        exact bodyPost_ret (v := .agg R.toArray) (results_blk (q := 4) rfl _ _ (w.heap.size + 2) R _ rfl FIN hu rfl (by rw [HRL.out]; exact info_card)) rfl ⟨rfl, FB⟩

theorem rmerge_any (id ver lab pl : Int) (x : BitVec 32) (C P : List V3) (w : World) (hC : C.length = 8) (hP : P.length = 8) (h0 : 0 ≤ ver) (h1 : ver ≤ 1099511627776) :
    Calls Try.prog 25 #[.agg (ccells id ver lab C).toArray, .agg (pcells (x.toNat : Int) pl P).toArray] w fun e w' =>
      e = .returned (.agg (ccells id (nextVer ver) (if has x 8 then pl else lab) (mix (fun i => has x (i : Int)) P C)).toArray) ∧ Below w.heap.size w w' := by
  by_cases h : 1099511627775 < ver
  · rw [show nextVer ver = 1099511627776 from by unfold nextVer; split <;> omega]
    exact rmerge_hi id ver lab pl x C P w hC hP h (by omega)
  · rw [show nextVer ver = ver + 1 from by unfold nextVer; split <;> omega]
    exact rmerge_lo id ver lab pl x C P w hC hP (by omega) (by omega)
theorem rmerge_all (id ver lab pl : Int) (x : BitVec 32) (C P : List V3) (w : World) (hC : C.length = 8) (hP : P.length = 8) (h0 : -9223372036854775808 ≤ ver) (h1 : ver ≤ 9223372036854775807) :
    Calls Try.prog 25 #[.agg (ccells id ver lab C).toArray, .agg (pcells (x.toNat : Int) pl P).toArray] w fun e w' =>
      e = .returned (.agg (ccells id (if 1099511627775 < ver then 1099511627776 else ver + 1) (if has x 8 then pl else lab) (mix (fun i => has x (i : Int)) P C)).toArray) ∧ Below w.heap.size w w' := by
  by_cases h : 1099511627775 < ver
  · rw [if_pos h]
    exact rmerge_hi id ver lab pl x C P w hC hP h h1
  · rw [if_neg h]
    exact rmerge_lo id ver lab pl x C P w hC hP h0 (by omega)
end Go.Proofs.Ytjlpccdlpgkgoaa
