/- Cards: a new card: what it returns. -/
import Derived.Test.YtgdidamjgaegkaaCardG
namespace Go.Proofs.Ytgdidamjgaegkaa
set_option linter.unusedVariables false
open Go Go.RowKit BitM

theorem zcid (id : Int) : (ccells id 0 0 zeros).toArray = #[Value.int .i64 id, .int .i64 0, .int .u32 0, .int .i64 0, .int .i64 0, .string { data := #[] }, .int .i64 0, .int .i64 0, .string { data := #[] }, .int .i64 0, .int .i64 0, .string { data := #[] }, .int .i64 0, .int .i64 0, .string { data := #[] }, .int .i64 0, .int .i64 0, .string { data := #[] }, .int .i64 0, .int .i64 0, .string { data := #[] }, .int .i64 0, .int .i64 0, .string { data := #[] }, .int .i64 0, .int .i64 0, .string { data := #[] }] := rfl

set_option maxRecDepth 100000 in
set_option maxHeartbeats 3200000 in
theorem fresh_any (id pl : Int) (x : BitVec 32) (P : List V3) (w : World) (hP : P.length = 8) :
    Calls Try.prog 26 #[.int .i64 id, .agg (pcells (x.toNat : Int) pl P).toArray] w fun e w' =>
      e = .returned (.agg (ccells id 1 (if has x 8 then pl else 0) (mix (fun i => has x (i : Int)) P zeros)).toArray) ∧ Below w.heap.size w w' := by
  have HS := Lib.hid (fun wx : World => merge_any id 0 0 pl x zeros P wx zeros_len hP (by omega))
  have hnv : nextVer 0 = 1 := rfl
  rw [hnv] at HS
  obtain ⟨R, hR⟩ : ∃ R, R = ccells id 1 (if has x 8 then pl else 0) (mix (fun i => has x (i : Int)) P zeros) := ⟨_, rfl⟩
  have hRl : R.length = 27 := by rw [hR, ccells_len _ _ _ (mix_len _ _ _)]
  have hone : ∀ v ∈ R, v.oneCell' = true := by rw [hR]; exact ccells_one _ _ _ _
  rw [← hR] at HS ⊢
  rw [zcid id] at HS
  have HPL : Hid ((pcells (x.toNat : Int) pl P).length = 26) := Lib.hid (pcells_len _ _ hP)
  have HRL := Lib.hid hRl
  have B0 := Blk.new w (pcells (x.toNat : Int) pl P) 29
  obtain ⟨pc, hpc⟩ : ∃ pc, pc = pcells (x.toNat : Int) pl P := ⟨_, rfl⟩
  rw [← hpc] at HS B0 HPL ⊢
  have B1 := Blk.new (w.alloc (.cells pc.toArray 29)) (ccells 0 0 0 zeros) 27
  have hw0 := ((Below.refl w.heap.size w).alloc (Nat.le_refl _) (.cells pc.toArray 29)).alloc (by simp) (.cells (ccells 0 0 0 zeros).toArray 27)
  replace B0 := B0.alloc (.cells (ccells 0 0 0 zeros).toArray 27)
  have hsz : ((w.alloc (.cells pc.toArray 29)).alloc (.cells (ccells 0 0 0 zeros).toArray 27)).heap.size = w.heap.size + 2 := by simp
  have hs1 : (w.alloc (.cells pc.toArray 29)).heap.size = w.heap.size + 1 := by simp
  rw [hs1] at B1
  generalize hW : (w.alloc (.cells pc.toArray 29)).alloc (.cells (ccells 0 0 0 zeros).toArray 27) = W at *
  have HW := Lib.hid hW
  have HB := Lib.hid hw0
  have HSZ := Lib.hid hsz
  have HZ := Lib.hid zc27
  clear hR hpc hsz hs1 hW hw0 hP hnv hRl
  have RG := B0.wholeC
  have hup := Try.underlying29
  have hu := Try.underlying27
  rw [← HW.out] at RG
  rw [zc27] at RG
  go_enter Try.func26, Try.ntmps26
  go_wp2_with (first
    | (refine wpList_load_mid rfl 29 (.tmp 3) rfl w.heap.size 0 rfl pc _ RG hup rfl (by rw [HPL.out]; exact info_patch) ?_))
  rw [← zc27, HW.out]
  clear RG
  refine (HS.out W).mono ?_
  rintro e w1 ⟨rfl, hb⟩
  have C1 := B1.later hb
  have hbw : Below w.heap.size w w1 := HB.out.trans (hb.mono (by rw [HSZ.out]; omega))
  clear B0 B1 HS HSZ HB hb HW
  have TH := C1.there 0 27 (by rw [ccells_len 0 0 0 zeros_len]; omega)
  have FIN := C1.whole (ds := R) (by rw [HRL.out, ccells_len 0 0 0 zeros_len])
  have FB := below_sets (B := w.heap.size) (b := w.heap.size + 1) (by omega) R 0 hbw
  clear C1 hbw
  go_wp2_with (first
    | (refine wpList_store_mid rfl 27 (.tmp 4) (.tmp 8) rfl (w.heap.size + 1) 0 R.toArray rfl rfl (by simpa [HRL.out] using TH) (by simpa [HRL.out] using info_card) (all_oneCell_toArray hone) ?_))
  exact bodyPost_ret (v := .agg R.toArray) (results_blk (q := 4) rfl _ _ (w.heap.size + 1) R _ rfl FIN hu rfl (by rw [HRL.out]; exact info_card)) rfl ⟨rfl, FB⟩

set_option maxRecDepth 100000 in
/-- Is all of one mask in another, by the document? -/
theorem rwithin_any (x y : BitVec 32) (w : World) : Calls Try.prog 30 #[.int .u32 (x.toNat : Int), .int .u32 (y.toNat : Int)] w fun e w' =>
    e = .returned (.bool (decide (∀ i : Nat, i < 32 → has x (i : Int) = true → has y (i : Int) = true))) ∧ w = w' := by
  obtain ⟨R, hR⟩ : ∃ R, R = decide (∀ i : Nat, i < 32 → has x (i : Int) = true → has y (i : Int) = true) := ⟨_, rfl⟩
  rw [← hR]
  have HR := Lib.hid hR
  clear hR
  have HX := Lib.hid (fun (k : Int) (wx : World) => rhas_any x k wx)
  have HY := Lib.hid (fun (k : Int) (wx : World) => rhas_any y k wx)
  go_enter Try.func30, Try.ntmps30
  go_wp2_with fail
  go_loopw [5] (fun i wr => ∃ k : Nat, k ≤ 32 ∧ i = .int .i64 k ∧ Hid (∀ i : Nat, i < k → has x (i : Int) = true → has y (i : Int) = true) ∧ wr = w) (fun i _ => 32 - (intOf i).toNat)
  case atStart => exact ⟨0, by omega, rfl, Lib.hid (fun i hi => absurd hi (by omega)), rfl⟩
  case round =>
    obtain ⟨k, hk, rfl, HK, rfl⟩ := hrel
    by_cases hlt : k < 32
    · have d8 : (k : Int) < 32 := by omega
      cases hx : has x (k : Int) with
      | false =>
        have H1 := Lib.hid (HX.out (k : Int) wr)
        rw [hx] at H1
        have HX1 := Lib.hid hx
        clear hx
        go_wp2_with fail
        refine H1.out.mono ?_
        rintro e w' ⟨rfl, rfl⟩
        go_wp2_with fail
        go_roundw
        case rel => exact ⟨k + 1, by omega, by go_num, Lib.hid (fun i hi h => by
          by_cases e : i = k
          · subst e; rw [HX1.out] at h; exact absurd h (by simp)
          · exact HK.out i (by omega) h), trivial⟩
        case measure => simp [intOf]; omega
      | true =>
        cases hy : has y (k : Int) with
        | true =>
          have H1 := Lib.hid (HX.out (k : Int) wr)
          have H2 := Lib.hid (HY.out (k : Int) wr)
          rw [hx] at H1
          rw [hy] at H2
          have HX1 := Lib.hid hy
          clear hx hy
          go_wp2_with fail
          refine H1.out.mono ?_
          rintro e w' ⟨rfl, rfl⟩
          go_wp2_with fail
          refine H2.out.mono ?_
          rintro e w' ⟨rfl, rfl⟩
          go_wp2_with fail
          go_roundw
          case rel => exact ⟨k + 1, by omega, by go_num, Lib.hid (fun i hi h => by
            by_cases e : i = k
            · subst e; exact HX1.out
            · exact HK.out i (by omega) h), trivial⟩
          case measure => simp [intOf]; omega
        | false =>
          have H1 := Lib.hid (HX.out (k : Int) wr)
          have H2 := Lib.hid (HY.out (k : Int) wr)
          have HRR : Hid (R = false) := Lib.hid (by
            rw [HR.out]
            refine decide_eq_false ?_
            intro h
            rw [h k hlt hx] at hy
            exact absurd hy (by simp))
          rw [hx] at H1
          rw [hy] at H2
          clear hx hy
          go_wp2_with fail
          refine H1.out.mono ?_
          rintro e w' ⟨rfl, rfl⟩
          go_wp2_with fail
          refine H2.out.mono ?_
          rintro e w' ⟨rfl, rfl⟩
          go_wp2_with fail
          go_ret
          exact ⟨by rw [HRR.out]; rfl, rfl⟩
    · obtain rfl : k = 32 := by omega
      have HRR : Hid (R = true) := Lib.hid (by rw [HR.out]; exact decide_eq_true HK.out)
      go_wp2_with fail
      go_ret
      exact ⟨by rw [HRR.out]; rfl, rfl⟩
end Go.Proofs.Ytgdidamjgaegkaa
