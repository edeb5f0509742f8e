/- Cards: what a mask shows of a card, what a patch writes to it, by the document: what each returns. -/
import Derived.Test.YtgdidamjgaegkaaCardL
namespace Go.Proofs.Ytgdidamjgaegkaa
set_option linter.unusedVariables false
open Go Go.RowKit BitM

/-- The fields ahead of k that a mask has. -/
def pk (x : BitVec 32) (k : Nat) : Nat → Bool := fun i => decide (i < k) && has x (i : Int)
theorem pk_no (x : BitVec 32) (k i : Nat) (h : has x (k : Int) = false) : pk x (k + 1) i = pk x k i := by
  unfold pk
  by_cases e : i = k
  · subst e; simp [h]
  · rw [show decide (i < k + 1) = decide (i < k) from by by_cases h2 : i < k <;> simp [h2] <;> omega]
theorem pk_yes (x : BitVec 32) (k i : Nat) (h : has x (k : Int) = true) : pk x (k + 1) i = (pk x k i || i == k) := by
  unfold pk
  by_cases e : i = k
  · subst e; simp [h]
  · rw [show decide (i < k + 1) = decide (i < k) from by by_cases h2 : i < k <;> simp [h2] <;> omega, show (i == k) = false from by simpa using e, Bool.or_false]
theorem pk_all (x : BitVec 32) (a c : List V3) : mix (pk x 8) a c = mix (fun i => has x (i : Int)) a c := mix_congr _ _ (fun i hi => by unfold pk; rw [decide_eq_true hi]; rfl)
theorem pk_none (x : BitVec 32) (a c : List V3) (hc : c.length = 8) : mix (pk x 0) a c = c := by
  exact (mix_congr (p := pk x 0) (q := fun _ => false) a c (fun i _ => by unfold pk; simp)).trans (mix_none a c hc)

set_option maxRecDepth 100000 in
set_option maxHeartbeats 3200000 in
theorem rproject_any (id ver lab : Int) (f : List V3) (x : BitVec 32) (w : World) (hf : f.length = 8) :
    Calls Try.prog 21 #[.agg (ccells id ver lab f).toArray, .int .u32 (x.toNat : Int)] w fun e w' =>
      e = .returned (.agg (ccells id ver (if has x 8 then lab else 0) (mix (fun i => has x (i : Int)) f zeros)).toArray) ∧ Below w.heap.size w w' := by
  have HX := Lib.hid (fun (k : Int) (wx : World) => rhas_any x k wx)
  have HLB := Lib.hid (fun wx : World => rlabels_any x wx)
  obtain ⟨nl, hnl⟩ : ∃ nl : Int, nl = (if has x 8 then lab else 0) := ⟨_, rfl⟩
  obtain ⟨nf, hnf⟩ : ∃ nf, nf = mix (fun i => has x (i : Int)) f zeros := ⟨_, rfl⟩
  rw [← hnl, ← hnf]
  obtain ⟨R, hR⟩ : ∃ R, R = ccells id ver nl nf := ⟨_, rfl⟩
  have hRl : R.length = 27 := by rw [hR, ccells_len _ _ _ (by rw [hnf, mix_len])]
  have hone : ∀ v ∈ R, v.oneCell' = true := by rw [hR]; exact ccells_one _ _ _ _
  rw [← hR]
  have HR0 := Lib.hid hR
  have HRL := Lib.hid hRl
  have HNL := Lib.hid hnl
  have HNF := Lib.hid hnf
  have B0 := Blk.new w (ccells id ver lab f) 27
  obtain ⟨ca, hca⟩ : ∃ ca, ca = (ccells id ver lab f).toArray := ⟨_, rfl⟩
  rw [← hca] at B0 ⊢
  have B1 := Blk.new (w.alloc (.cells ca 27)) (ccells 0 0 0 zeros) 27
  have B2 := Blk.new ((w.alloc (.cells ca 27)).alloc (.cells (ccells 0 0 0 zeros).toArray 27)) (ccells 0 0 0 zeros) 27
  have hw0 := (((Below.refl w.heap.size w).alloc (Nat.le_refl _) (.cells ca 27)).alloc (by simp) (.cells (ccells 0 0 0 zeros).toArray 27)).alloc (by simp; omega) (.cells (ccells 0 0 0 zeros).toArray 27)
  have A0 := B0.alloc (.cells (ccells 0 0 0 zeros).toArray 27)
  obtain ⟨q0, q1, q2⟩ := A0.card
  clear q2
  replace B0 := A0.alloc (.cells (ccells 0 0 0 zeros).toArray 27)
  replace B1 := B1.alloc (.cells (ccells 0 0 0 zeros).toArray 27)
  have hs1 : (w.alloc (.cells ca 27)).heap.size = w.heap.size + 1 := by simp
  have hs2 : ((w.alloc (.cells ca 27)).alloc (.cells (ccells 0 0 0 zeros).toArray 27)).heap.size = w.heap.size + 2 := by simp
  rw [hs1] at B1
  rw [hs2] at B2
  generalize hW : ((w.alloc (.cells ca 27)).alloc (.cells (ccells 0 0 0 zeros).toArray 27)).alloc (.cells (ccells 0 0 0 zeros).toArray 27) = W at *
  obtain ⟨zs, hzs⟩ : ∃ zs, zs = ccells id ver 0 zeros := ⟨_, rfl⟩
  have hzl : zs.length = 27 := by rw [hzs]; exact ccells_len _ _ _ zeros_len
  have C2 := B2.whole (ds := zs) (by rw [hzl, ccells_len 0 0 0 zeros_len])
  have C0 := Blk.setsOther (b := w.heap.size + 2) (g := w.heap.size) (by omega) zs 0 B0
  have C1 := Blk.setsOther (b := w.heap.size + 2) (g := w.heap.size + 1) (by omega) zs 0 B1
  have CB := below_sets (B := w.heap.size) (b := w.heap.size + 2) (by omega) zs 0 hw0
  have TH := B2.there 0 27 (by rw [ccells_len 0 0 0 zeros_len]; omega)
  have hone0 : ∀ v ∈ zs, v.oneCell' = true := by rw [hzs]; exact ccells_one _ _ _ _
  have HZ0 := Lib.hid hzl
  obtain ⟨W2, hW2⟩ : ∃ W2, W2 = W.setCells (w.heap.size + 2) 0 zs := ⟨_, rfl⟩
  rw [← hW2] at C0 C1 C2 CB
  rw [hzs] at C2
  rw [zc27] at hW q0 q1
  have HW := Lib.hid hW
  have HW2 := Lib.hid hW2
  have HF := Lib.hid hf
  have HZS := Lib.hid hzs
  clear hzs hzl hnl hnf hR hRl hca hs1 hs2 hW hW2 hw0 hf A0 B0 B1 B2
  have hu := Try.underlying27
  rw [← HW.out] at TH
  have hbw := CB
  clear CB
  have HC0 := Lib.hid C0
  have HC1 := Lib.hid C1
  have HC2 := Lib.hid C2
  have HBW := Lib.hid hbw
  clear C0 C1 C2 hbw
  go_enter Try.func21, Try.ntmps21
  go_wp2_with (first
    | (refine wpList_store_mid rfl 27 (.tmp 5) (.tmp 11) rfl (w.heap.size + 2) 0 zs.toArray rfl (by rw [HZS.out]; rfl) (by simpa [HZ0.out] using TH) (by simpa [HZ0.out] using info_card) (all_oneCell_toArray hone0) ?_))
  rw [HW.out, ← HW2.out]
  clear q0 q1 TH
  have C0 := HC0.out
  have C1 := HC1.out
  have C2 := HC2.out
  have hbw := HBW.out
  clear HC0 HC1 HC2 HBW HW HW2
  refine (HLB.out W2).mono ?_
  rintro e w' ⟨rfl, rfl⟩
  cases h8 : has x 8 with
  | true =>
    have HR : Hid (R = ccells id ver lab nf) := Lib.hid (by rw [HR0.out, HNL.out, h8]; rfl)
    clear h8 HR0
    obtain ⟨q0, q1, q2⟩ := C0.card
    obtain ⟨p0, p1, p2⟩ := C2.card
    have fl := C2.frozen 2
    have E2 := C2.putLab lab
    have E0 := C0.setOther (b := w.heap.size + 2) 2 (.int .u32 lab) (by omega)
    have E1 := C1.setOther (b := w.heap.size + 2) 2 (.int .u32 lab) (by omega)
    have EB := below_set (B := w.heap.size) (b := w.heap.size + 2) (by omega) hbw 2 (.int .u32 lab)
    clear C0 C1 C2 hbw
    go_wp2_with fail
    clear q0 q1 q2 p0 p1 p2 fl
    have C0 := E0
    have C1 := E1
    have C2 := E2
    have hbw := EB
    clear E0 E1 E2 EB
    go_loopw [6] (fun i wr => ∃ k : Nat, k ≤ 8 ∧ i = .int .i64 k ∧ Blk wr w.heap.size (ccells id ver lab f) ∧ Blk wr (w.heap.size + 1) (ccells 0 0 0 zeros) ∧ Blk wr (w.heap.size + 2) (ccells id ver lab (mix (pk x k) f zeros)) ∧ Below w.heap.size w wr) (fun i _ => 8 - (intOf i).toNat)
    case atStart => exact ⟨0, by omega, rfl, C0, C1, by rw [pk_none x f zeros zeros_len]; exact C2, hbw⟩
    case round =>
      obtain ⟨k, hk, rfl, D0, D1, D2, hbr⟩ := hrel
      clear C0 C1 C2 hbw
      by_cases hlt : k < 8
      · have d8 : (k : Int) < 8 := by omega
        have hks : k < f.length := by rw [HF.out]; exact hlt
        cases hx : has x (k : Int) with
        | false =>
          have H1 := Lib.hid (HX.out (k : Int) wr)
          rw [hx] at H1
          have hm : mix (pk x (k + 1)) f zeros = mix (pk x k) f zeros := mix_congr _ _ (fun i _ => pk_no x k i hx)
          have HMM := Lib.hid hm
          have HNN := trivial
          clear hx hm
          go_wp2_with fail
          refine H1.out.mono ?_
          rintro e w' ⟨rfl, rfl⟩
          skip
          go_wp2_with fail
          go_roundw
          case rel => exact ⟨k + 1, by omega, by go_num, D0, D1, by rw [HMM.out]; exact D2, hbr⟩
          case measure => simp [intOf]; omega
        | true =>
          have H1 := Lib.hid (HX.out (k : Int) wr)
          rw [hx] at H1
          have hm : mix (pk x (k + 1)) f zeros = mix (fun i => pk x k i || i == k) f zeros := mix_congr _ _ (fun i _ => pk_yes x k i hx)
          obtain ⟨l0, l1, l2⟩ := Blk.field (o := 3) D0 k rfl hks
          obtain ⟨s0, s1, s2⟩ := Blk.field (o := 3) D2 k rfl (by rw [mix_len]; exact hlt)
          have f0 := D2.frozen (3 + k * 3)
          have f1 := D2.frozen (3 + k * 3 + 1)
          have f2 := D2.frozen (3 + k * 3 + 2)
          have ED := blk_field (w := wr) (g := w.heap.size + 2) (pk x k) f zeros [.int .i64 id, .int .i64 ver, .int .u32 lab] k hlt hks D2
          rw [← hm] at ED
          have E0 := Blk.setsOther (b := w.heap.size + 2) (g := w.heap.size) (by omega) (vcells f[k]) (3 + k * 3) D0
          have E1 := Blk.setsOther (b := w.heap.size + 2) (g := w.heap.size + 1) (by omega) (vcells f[k]) (3 + k * 3) D1
          have EB := below_sets (B := w.heap.size) (b := w.heap.size + 2) (by omega) (vcells f[k]) (3 + k * 3) hbr
          have HNN := trivial
          obtain ⟨v, hv⟩ : ∃ v, v = f[k] := ⟨_, rfl⟩
          rw [← hv] at l0 l1 l2 ED EB E0 E1
          obtain ⟨v0, v1, v2⟩ := v
          simp only at l0 l1 l2
          have RR : Hid (Blk (wr.setCells (w.heap.size + 2) (3 + k * 3) (vcells (v0, v1, v2))) (w.heap.size + 2) (ccells (id) (ver) (lab) (mix (pk x (k + 1)) f zeros)) ∧ Below w.heap.size w (wr.setCells (w.heap.size + 2) (3 + k * 3) (vcells (v0, v1, v2)))) := ⟨ED, EB⟩
          have HO0 := Lib.hid E0
          have HO1 := Lib.hid E1
          clear hx hm hv ED EB E0 E1
          go_wp2_with fail
          refine H1.out.mono ?_
          rintro e w' ⟨rfl, rfl⟩
          skip
          go_wp2_with fail
          go_roundw
          case rel => exact ⟨k + 1, by omega, by go_num, HO0.out, HO1.out, RR.out.1, RR.out.2⟩
          case measure => simp [intOf]; omega
      · obtain rfl : k = 8 := by omega
        have hz : mix (pk x 8) f zeros = mix (fun i => has x (i : Int)) f zeros := pk_all x f zeros
        rw [hz, ← HNF.out, ← HR.out] at D2
        clear hz
        have RG := D2.wholeC
        have TH := D1.there 0 27 (by rw [ccells_len 0 0 0 zeros_len]; omega)
        have FIN := D1.whole (ds := R) (by rw [HRL.out, ccells_len 0 0 0 zeros_len])
        have FB := below_sets (B := w.heap.size) (b := w.heap.size + 1) (by omega) R 0 hbr
        clear D0 D1 D2 hbr
        go_wp2_with (first
          | (refine wpList_load_mid rfl 27 (.tmp 5) rfl (w.heap.size + 2) 0 rfl R _ RG hu rfl (by rw [HRL.out]; exact info_card) ?_)
          | (refine wpList_store_mid rfl 27 (.tmp 4) (.tmp 31) rfl (w.heap.size + 1) 0 R.toArray rfl rfl (by simpa [HRL.out] using TH) (by simpa [HRL.out] using info_card) (all_oneCell_toArray hone) ?_))
        exact bodyPost_ret (v := .agg R.toArray) (results_blk (q := 4) rfl _ _ (w.heap.size + 1) R _ rfl FIN hu rfl (by rw [HRL.out]; exact info_card)) rfl ⟨rfl, FB⟩
  | false =>
    have HR : Hid (R = ccells id ver 0 nf) := Lib.hid (by rw [HR0.out, HNL.out, h8]; rfl)
    clear h8 HR0
    go_wp2_with fail
    go_loopw [6] (fun i wr => ∃ k : Nat, k ≤ 8 ∧ i = .int .i64 k ∧ Blk wr w.heap.size (ccells id ver lab f) ∧ Blk wr (w.heap.size + 1) (ccells 0 0 0 zeros) ∧ Blk wr (w.heap.size + 2) (ccells id ver 0 (mix (pk x k) f zeros)) ∧ Below w.heap.size w wr) (fun i _ => 8 - (intOf i).toNat)
    case atStart => exact ⟨0, by omega, rfl, C0, C1, by rw [pk_none x f zeros zeros_len]; exact C2, hbw⟩
    case round =>
      obtain ⟨k, hk, rfl, D0, D1, D2, hbr⟩ := hrel
      clear C0 C1 C2 hbw
      by_cases hlt : k < 8
      · have d8 : (k : Int) < 8 := by omega
        have hks : k < f.length := by rw [HF.out]; exact hlt
        cases hx : has x (k : Int) with
        | false =>
          have H1 := Lib.hid (HX.out (k : Int) wr)
          rw [hx] at H1
          have hm : mix (pk x (k + 1)) f zeros = mix (pk x k) f zeros := mix_congr _ _ (fun i _ => pk_no x k i hx)
          have HMM := Lib.hid hm
          have HNN := trivial
          clear hx hm
          go_wp2_with fail
          refine H1.out.mono ?_
          rintro e w' ⟨rfl, rfl⟩
          skip
          go_wp2_with fail
          go_roundw
          case rel => exact ⟨k + 1, by omega, by go_num, D0, D1, by rw [HMM.out]; exact D2, hbr⟩
          case measure => simp [intOf]; omega
        | true =>
          have H1 := Lib.hid (HX.out (k : Int) wr)
          rw [hx] at H1
          have hm : mix (pk x (k + 1)) f zeros = mix (fun i => pk x k i || i == k) f zeros := mix_congr _ _ (fun i _ => pk_yes x k i hx)
          obtain ⟨l0, l1, l2⟩ := Blk.field (o := 3) D0 k rfl hks
          obtain ⟨s0, s1, s2⟩ := Blk.field (o := 3) D2 k rfl (by rw [mix_len]; exact hlt)
          have f0 := D2.frozen (3 + k * 3)
          have f1 := D2.frozen (3 + k * 3 + 1)
          have f2 := D2.frozen (3 + k * 3 + 2)
          have ED := blk_field (w := wr) (g := w.heap.size + 2) (pk x k) f zeros [.int .i64 id, .int .i64 ver, .int .u32 0] k hlt hks D2
          rw [← hm] at ED
          have E0 := Blk.setsOther (b := w.heap.size + 2) (g := w.heap.size) (by omega) (vcells f[k]) (3 + k * 3) D0
          have E1 := Blk.setsOther (b := w.heap.size + 2) (g := w.heap.size + 1) (by omega) (vcells f[k]) (3 + k * 3) D1
          have EB := below_sets (B := w.heap.size) (b := w.heap.size + 2) (by omega) (vcells f[k]) (3 + k * 3) hbr
          have HNN := trivial
          obtain ⟨v, hv⟩ : ∃ v, v = f[k] := ⟨_, rfl⟩
          rw [← hv] at l0 l1 l2 ED EB E0 E1
          obtain ⟨v0, v1, v2⟩ := v
          simp only at l0 l1 l2
          have RR : Hid (Blk (wr.setCells (w.heap.size + 2) (3 + k * 3) (vcells (v0, v1, v2))) (w.heap.size + 2) (ccells (id) (ver) (0) (mix (pk x (k + 1)) f zeros)) ∧ Below w.heap.size w (wr.setCells (w.heap.size + 2) (3 + k * 3) (vcells (v0, v1, v2)))) := ⟨ED, EB⟩
          have HO0 := Lib.hid E0
          have HO1 := Lib.hid E1
          clear hx hm hv ED EB E0 E1
          go_wp2_with fail
          refine H1.out.mono ?_
          rintro e w' ⟨rfl, rfl⟩
          skip
          go_wp2_with fail
          go_roundw
          case rel => exact ⟨k + 1, by omega, by go_num, HO0.out, HO1.out, RR.out.1, RR.out.2⟩
          case measure => simp [intOf]; omega
      · obtain rfl : k = 8 := by omega
        have hz : mix (pk x 8) f zeros = mix (fun i => has x (i : Int)) f zeros := pk_all x f zeros
        rw [hz, ← HNF.out, ← HR.out] at D2
        clear hz
        have RG := D2.wholeC
        have TH := D1.there 0 27 (by rw [ccells_len 0 0 0 zeros_len]; omega)
        have FIN := D1.whole (ds := R) (by rw [HRL.out, ccells_len 0 0 0 zeros_len])
        have FB := below_sets (B := w.heap.size) (b := w.heap.size + 1) (by omega) R 0 hbr
        clear D0 D1 D2 hbr
        go_wp2_with (first
          | (refine wpList_load_mid rfl 27 (.tmp 5) rfl (w.heap.size + 2) 0 rfl R _ RG hu rfl (by rw [HRL.out]; exact info_card) ?_)
          | (refine wpList_store_mid rfl 27 (.tmp 4) (.tmp 31) rfl (w.heap.size + 1) 0 R.toArray rfl rfl (by simpa [HRL.out] using TH) (by simpa [HRL.out] using info_card) (all_oneCell_toArray hone) ?_))
        exact bodyPost_ret (v := .agg R.toArray) (results_blk (q := 4) rfl _ _ (w.heap.size + 1) R _ rfl FIN hu rfl (by rw [HRL.out]; exact info_card)) rfl ⟨rfl, FB⟩
end Go.Proofs.Ytgdidamjgaegkaa
