/- Cards: which values may be: what it returns. -/
import Derived.Test.YticdpfjajkfheaaP9
import Derived.Test.YticdpfjajkfheaaP5
import Derived.Test.YticdpfjajkfheaaP6
import Derived.Test.YticdpfjajkfheaaP7
namespace Go.Proofs.Yticdpfjajkfheaa
set_option linter.unusedVariables false
open Go Go.RowKit BitM

theorem zv3 : (vcells zv).toArray = #[Value.int .i64 0, .int .i64 0, .string { data := #[] }] := rfl

/-- f[k] of an array of values. -/
theorem run_index_val (f : List V3) (k : Nat) (hk : k < f.length) (hf : f.length = 8) (w : World) :
    (Instr.index 25 (.agg (fcells f).toArray) (.int .i64 (k : Int))).run Try.prog w = .ok (.agg (vcells f[k]).toArray) w := by
  have hsz : ∀ w, (sizeOf 24).run Try.prog w = .ok 3 w := fun w => by kernel_rfl
  have hag : ∀ w, (isAgg 24).run Try.prog w = .ok true w := fun w => by kernel_rfl
  have h8 : (0 : Int) ≤ (k : Int) ∧ (k : Int) < ((8 : Nat) : Int) := by omega
  have hp : (part 24 (fcells f).toArray (k * 3)).run Try.prog w = .ok (.agg (vcells f[k]).toArray) w := by
    simp only [part, Sem.run_bind, hag, Result.andThen_ok, hsz, if_true, Sem.run_pure, fcells_ext f k hk]
  simp only [Instr.index, asIntOf, Sem.run_bind, Sem.run_pure, Result.andThen_ok, run_underlying Try.underlying25, if_pos h8, hsz, Int.toNat_natCast, hp]
theorem exec_index {a : Act} {w : World} {op : Oper} (f : List V3) (k : Nat) (hk : k < f.length) (hf : f.length = 8) (x y : Operand) (ho : op.op = .index 25 x y) (hx : a.eval x = .agg (fcells f).toArray) (hy : a.eval y = .int .i64 (k : Int)) :
    (execOp a.eval op).run Try.prog w = .ok (.value (.agg (vcells f[k]).toArray)) w := by
  unfold execOp
  simp only [ho, hx, hy, Sem.run_bind, run_index_val f k hk hf, Result.andThen_ok, Sem.run_pure]

set_option maxRecDepth 100000 in
set_option maxHeartbeats 1600000 in
theorem values_any (f : List V3) (w : World) (hf : f.length = 8) :
    Calls Try.prog 56 #[.agg (fcells f).toArray] w fun e w' => e = .returned (.bool (vk f 8)) ∧ Below w.heap.size w w' := by
  have HF := Lib.hid hf
  have HFL : Hid ((fcells f).length = 24) := Lib.hid (by rw [fcells_len, hf])
  have B0 := Blk.new w (fcells f) 25
  obtain ⟨fa, hfa⟩ : ∃ fa, fa = (fcells f).toArray := ⟨_, rfl⟩
  rw [← hfa] at B0 ⊢
  have HB := Lib.hid ((Below.refl w.heap.size w).alloc (Nat.le_refl _) (.cells fa 25))
  obtain ⟨R, hR⟩ : ∃ R, R = vk f 8 := ⟨_, rfl⟩
  rw [← hR]
  have HR := Lib.hid hR
  have RG := B0.wholeC
  have hu8 := Try.underlying25
  have hu := Try.underlying24
  have HFA := Lib.hid hfa
  clear hfa hf hR B0
  go_enter Try.func56, Try.ntmps56
  go_wp2_with (first
    | (refine wpList_load_mid rfl 25 (.tmp 1) rfl w.heap.size 0 rfl (fcells f) _ RG hu8 rfl (by rw [HFL.out]; exact info_fields) ?_))
  clear RG
  go_loopw [6] (fun i wr => ∃ k : Nat, k ≤ 8 ∧ i = .int .i64 k ∧ Hid (vk f k = true) ∧ Below w.heap.size w wr) (fun i _ => 8 - (intOf i).toNat)
  case atStart => exact ⟨0, by omega, rfl, Lib.hid rfl, HB.out⟩
  case round =>
    obtain ⟨k, hk, rfl, HK, hbr⟩ := hrel
    clear HB
    by_cases hlt : k < 8
    · have hkf : k < f.length := by rw [HF.out]; exact hlt
      have d8 : (k : Int) < 8 := by omega
      have HS := Lib.hid (vk_succ f k)
      obtain ⟨v, hv⟩ : ∃ v, v = f[k] := ⟨_, rfl⟩
      have hg : f.getD k zv = v := by rw [hv]; simp [List.getD, hkf]
      have HG := Lib.hid hg
      have HV := Lib.hid hv
      obtain ⟨v0, v1, v2⟩ := v
      have HC := Lib.hid (fun wx : World => vcheck_any v0 v1 v2 wx)
      have A1 := Blk.new wr (vcells zv) 24
      have TH := A1.there 0 3 (by simp [vcells])
      have E1 := A1.whole (ds := vcells (v0, v1, v2)) rfl
      have RGV := E1.wholeC
      have EB := below_sets (B := w.heap.size) (b := wr.heap.size) hbr.size (vcells (v0, v1, v2)) 0 (hbr.alloc hbr.size (.cells (vcells zv).toArray 24))
      have hone : ∀ u ∈ vcells (v0, v1, v2), u.oneCell' = true := by intro u hu; simp [vcells] at hu; rcases hu with rfl | rfl | rfl <;> rfl
      rw [zv3] at TH RGV EB
      have HEB := Lib.hid EB
      clear hv hg A1 E1 EB
      cases hc : vchk (v0, v1, v2) with
      | false =>
        rw [hc] at HC
        have HCC := Lib.hid hc
        clear hc
        go_wp2_with (first
          | (refine wpList_exec (op := ⟨some 8, .index 25 _ _, _, _, _, _⟩) (by rfl) (.agg (vcells (v0, v1, v2)).toArray) (by rw [HV.out]; exact exec_index f k hkf HF.out (.tmp 5) (.tmp 6) rfl rfl rfl) ?_)
          | (refine wpList_store_mid rfl 24 (.tmp 4) (.tmp 8) rfl wr.heap.size 0 (vcells (v0, v1, v2)).toArray rfl rfl (by simpa [vcells] using TH) (by simpa [vcells] using info_val) (all_oneCell_toArray hone) ?_)
          | (refine wpList_load_mid rfl 24 (.tmp 4) rfl wr.heap.size 0 rfl (vcells (v0, v1, v2)) _ RGV hu rfl info_val ?_))
        refine (HC.out _).mono ?_
        rintro e w1 ⟨rfl, hb⟩
        have hbw := HEB.out.trans (hb.mono HEB.out.size)
        clear TH RGV HEB hb
        go_wp2_with fail
        go_ret
        refine ⟨?_, hbw⟩
        have hfin : R = false := by rw [HR.out]; exact vk_mono f (j := k + 1) (by omega) (by rw [HS.out, HG.out, HCC.out]; simp)
        rw [hfin]
        rfl
      | true =>
        rw [hc] at HC
        have HCC := Lib.hid hc
        clear hc
        go_wp2_with (first
          | (refine wpList_exec (op := ⟨some 8, .index 25 _ _, _, _, _, _⟩) (by rfl) (.agg (vcells (v0, v1, v2)).toArray) (by rw [HV.out]; exact exec_index f k hkf HF.out (.tmp 5) (.tmp 6) rfl rfl rfl) ?_)
          | (refine wpList_store_mid rfl 24 (.tmp 4) (.tmp 8) rfl wr.heap.size 0 (vcells (v0, v1, v2)).toArray rfl rfl (by simpa [vcells] using TH) (by simpa [vcells] using info_val) (all_oneCell_toArray hone) ?_)
          | (refine wpList_load_mid rfl 24 (.tmp 4) rfl wr.heap.size 0 rfl (vcells (v0, v1, v2)) _ RGV hu rfl info_val ?_))
        refine (HC.out _).mono ?_
        rintro e w1 ⟨rfl, hb⟩
        have hbw := HEB.out.trans (hb.mono HEB.out.size)
        clear TH RGV HEB hb
        go_wp2_with fail
        go_roundw
        case rel => exact ⟨k + 1, by omega, by go_num, Lib.hid (by rw [HS.out, HK.out, HG.out, HCC.out]; rfl), hbw⟩
        case measure => simp [intOf]; omega
    · obtain rfl : k = 8 := by omega
      go_wp2_with fail
      go_ret
      exact ⟨by rw [HR.out, HK.out]; rfl, hbr⟩
end Go.Proofs.Yticdpfjajkfheaa

/- Cards: which cards may be: what it returns. -/
namespace Go.Proofs.Yticdpfjajkfheaa
set_option linter.unusedVariables false
open Go Go.RowKit BitM

set_option maxRecDepth 100000 in
set_option maxHeartbeats 3200000 in
theorem ccheck_any (id ver lab : Int) (f : List V3) (w : World) (hf : f.length = 8) :
    Calls Try.prog 33 #[.agg (ccells id ver lab f).toArray] w fun e w' => e = .returned (.bool (ccheck id ver lab f)) ∧ Below w.heap.size w w' := by
  have HV := Lib.hid (fun wx : World => values_any f wx hf)
  have HFL : Hid ((fcells f).length = 24) := Lib.hid (by rw [fcells_len, hf])
  have B0 := Blk.new w (ccells id ver lab f) 27
  obtain ⟨ca, hca⟩ : ∃ ca, ca = (ccells id ver lab f).toArray := ⟨_, rfl⟩
  rw [← hca] at B0 ⊢
  have HB := Lib.hid ((Below.refl w.heap.size w).alloc (Nat.le_refl _) (.cells ca 27))
  obtain ⟨q0, q1, q2⟩ := B0.card
  have RF := B0.fieldsC
  have hu8 := Try.underlying25
  obtain ⟨R, hR⟩ : ∃ R, R = ccheck id ver lab f := ⟨_, rfl⟩
  rw [← hR]
  have HR := Lib.hid hR
  clear hR hca hf B0
  by_cases a0 : 1 ≤ id
  · have d0 : decide (1 ≤ id) = true := by simpa using a0
    by_cases a1 : id < 1073741824
    · have d1 : decide (id < 1073741824) = true := by simpa using a1
      by_cases a2 : 1 ≤ ver
      · have d2 : decide (1 ≤ ver) = true := by simpa using a2
        by_cases a3 : ver ≤ 1099511627776
        · have d3 : decide (ver ≤ 1099511627776) = true := by simpa using a3
          by_cases a4 : lab ≤ 65535
          · have d4 : decide (lab ≤ 65535) = true := by simpa using a4
            have HRR : Hid (R = vk f 8) := Lib.hid (by rw [HR.out]; unfold ccheck; rw [decide_eq_true (by omega), Bool.true_and])
            go_enter Try.func33, Try.ntmps33
            go_wp2_with (first
              | (refine wpList_load_g (by rfl) 25 (.tmp 27) rfl w.heap.size 3 rfl (fcells f) _ RF hu8 rfl (by rw [HFL.out]; exact info_fields) ?_))
            refine (HV.out _).mono ?_
            rintro e w1 ⟨rfl, hb⟩
            have hbw := HB.out.trans (hb.mono HB.out.size)
            clear RF HB
            go_wp2_with fail
            go_ret
            exact ⟨by rw [HRR.out]; rfl, hbw⟩
          · have d4 : decide (lab ≤ 65535) = false := by simpa using a4
            have HRR : Hid (R = false) := Lib.hid (by rw [HR.out]; unfold ccheck; rw [decide_eq_false (by omega), Bool.false_and])
            go_enter Try.func33, Try.ntmps33
            go_wp2_with fail
            go_ret
            exact ⟨by rw [HRR.out]; rfl, HB.out⟩
        · have d3 : decide (ver ≤ 1099511627776) = false := by simpa using a3
          have HRR : Hid (R = false) := Lib.hid (by rw [HR.out]; unfold ccheck; rw [decide_eq_false (by omega), Bool.false_and])
          go_enter Try.func33, Try.ntmps33
          go_wp2_with fail
          go_ret
          exact ⟨by rw [HRR.out]; rfl, HB.out⟩
      · have d2 : decide (1 ≤ ver) = false := by simpa using a2
        have HRR : Hid (R = false) := Lib.hid (by rw [HR.out]; unfold ccheck; rw [decide_eq_false (by omega), Bool.false_and])
        go_enter Try.func33, Try.ntmps33
        go_wp2_with fail
        go_ret
        exact ⟨by rw [HRR.out]; rfl, HB.out⟩
    · have d1 : decide (id < 1073741824) = false := by simpa using a1
      have HRR : Hid (R = false) := Lib.hid (by rw [HR.out]; unfold ccheck; rw [decide_eq_false (by omega), Bool.false_and])
      go_enter Try.func33, Try.ntmps33
      go_wp2_with fail
      go_ret
      exact ⟨by rw [HRR.out]; rfl, HB.out⟩
  · have d0 : decide (1 ≤ id) = false := by simpa using a0
    have HRR : Hid (R = false) := Lib.hid (by rw [HR.out]; unfold ccheck; rw [decide_eq_false (by omega), Bool.false_and])
    go_enter Try.func33, Try.ntmps33
    go_wp2_with fail
    go_ret
    exact ⟨by rw [HRR.out]; rfl, HB.out⟩
end Go.Proofs.Yticdpfjajkfheaa

/- Cards: what is wrong with a patch: what it returns. -/
namespace Go.Proofs.Yticdpfjajkfheaa
set_option linter.unusedVariables false
open Go Go.RowKit BitM

theorem vchk_none {v : V3} (h : vchk v = true) (h0 : v.1 = 0) : v = zv := by
  obtain ⟨k, n, s⟩ := v
  simp only at h0
  subst h0
  rw [vchk_0, decide_eq_true_eq] at h
  obtain ⟨rfl, hs⟩ := h
  rw [nil_str_iff] at hs
  subst hs
  rfl
theorem vk_iff (f : List V3) (k : Nat) : vk f k = true ↔ ∀ i, i < k → vchk (f.getD i zv) = true := by
  unfold vk
  simp only [List.all_eq_true, List.mem_range]
theorem fok_iff (x : BitVec 32) (f : List V3) (k : Nat) : fok x f k = true ↔ ∀ i, i < k → vchk (f.getD i zv) = true ∧ ((f.getD i zv).1 = 0 ∨ has x (i : Int) = true) := by
  unfold fok
  simp only [List.all_eq_true, List.mem_range, Bool.and_eq_true, Bool.or_eq_true, decide_eq_true_eq]
theorem zeros_getD (i : Nat) : zeros.getD i zv = zv := by
  unfold zeros
  rw [List.getD_eq_getElem?_getD, List.getElem?_replicate]
  split <;> rfl
theorem mix_same (x : BitVec 32) (f : List V3) (hf : f.length = 8) : mix (fun i => has x (i : Int)) f zeros = f ↔ ∀ i : Nat, i < 8 → has x (i : Int) = true ∨ f.getD i zv = zv := by
  constructor
  · intro h i hi
    have h1 := mix_getD (fun i => has x (i : Int)) f zeros i hi
    rw [h] at h1
    cases hx : has x (i : Int)
    · right
      rw [h1, hx]
      exact zeros_getD i
    · exact .inl rfl
  · intro h
    apply List.ext_getElem
    · rw [mix_len, hf]
    · intro i h1 h2
      have hi : i < 8 := by rw [hf] at h2; exact h2
      have e : f.getD i zv = f[i] := by simp [List.getD, h2]
      rw [mix_get]
      rcases h i hi with hx | hz
      · rw [hx, ← e]; rfl
      · cases hx : has x (i : Int)
        · rw [← e, hz]; exact zeros_getD i
        · rw [← e]; rfl
theorem fok_eq (x : BitVec 32) (f : List V3) (hf : f.length = 8) : fok x f 8 = (decide (mix (fun i => has x (i : Int)) f zeros = f) && vk (mix (fun i => has x (i : Int)) f zeros) 8) := by
  rw [Bool.eq_iff_iff, Bool.and_eq_true, decide_eq_true_eq]
  constructor
  · intro h
    rw [fok_iff] at h
    have hm : mix (fun i => has x (i : Int)) f zeros = f := (mix_same x f hf).2 (fun i hi => by
      rcases (h i hi).2 with h0 | hx
      · exact .inr (vchk_none (h i hi).1 h0)
      · exact .inl hx)
    refine ⟨hm, ?_⟩
    rw [hm, vk_iff]
    exact fun i hi => (h i hi).1
  · rintro ⟨hm, hv⟩
    rw [hm, vk_iff] at hv
    rw [fok_iff]
    intro i hi
    refine ⟨hv i hi, ?_⟩
    rcases (mix_same x f hf).1 hm i hi with hx | hz
    · exact .inr hx
    · exact .inl (by rw [hz]; rfl)
theorem guard_arr : Try.prog.eqGuardType Try.prog.depth 25 = false := by kernel_rfl

set_option maxRecDepth 100000 in
set_option maxHeartbeats 3200000 in
theorem pcheck_any (x : BitVec 32) (lab : Int) (f : List V3) (w : World) (hf : f.length = 8) :
    Calls Try.prog 38 #[.agg (pcells (x.toNat : Int) lab f).toArray] w fun e w' => e = .returned (.int .i64 (pchk x lab f)) ∧ Below w.heap.size w w' := by
  have HS := Lib.hid (fun wx : World => shown_any lab x f wx hf)
  have HM := Lib.hid (fun wx : World => mcheck_any x wx)
  have HFL : Hid ((fcells f).length = 24) := Lib.hid (by rw [fcells_len, hf])
  obtain ⟨l, hl⟩ : ∃ l : Int, l = (if has x 8 then lab else 0) := ⟨_, rfl⟩
  obtain ⟨sf, hsf⟩ : ∃ sf, sf = mix (fun i => has x (i : Int)) f zeros := ⟨_, rfl⟩
  have hs8 : sf.length = 8 := by rw [hsf, mix_len]
  have HSF : Hid ((fcells sf).length = 24) := Lib.hid (by rw [fcells_len, hs8])
  have HV := Lib.hid (fun wx : World => values_any sf wx hs8)
  have HE := Lib.hid (fun wx : World => eq_fields 9997 sf f hs8 hf wx)
  have hfk := fok_eq x f hf
  rw [← hl, ← hsf] at HS
  rw [← hsf] at hfk
  have hone : ∀ v ∈ fcells sf, v.oneCell' = true := fcells_one sf
  obtain ⟨R, hR⟩ : ∃ R, R = pchk x lab f := ⟨_, rfl⟩
  rw [← hR]
  have HR := Lib.hid hR
  have HFK := Lib.hid hfk
  have HLL := Lib.hid hl
  have HZ8 : Hid ((fcells zeros).toArray = #[Value.int .i64 0, .int .i64 0, .string { data := #[] }, .int .i64 0, .int .i64 0, .string { data := #[] }, .int .i64 0, .int .i64 0, .string { data := #[] }, .int .i64 0, .int .i64 0, .string { data := #[] }, .int .i64 0, .int .i64 0, .string { data := #[] }, .int .i64 0, .int .i64 0, .string { data := #[] }, .int .i64 0, .int .i64 0, .string { data := #[] }, .int .i64 0, .int .i64 0, .string { data := #[] }]) := Lib.hid rfl
  have B0 := Blk.new w (pcells (x.toNat : Int) lab f) 29
  obtain ⟨pa, hpa⟩ : ∃ pa, pa = (pcells (x.toNat : Int) lab f).toArray := ⟨_, rfl⟩
  rw [← hpa] at B0 ⊢
  have hw0 := (Below.refl w.heap.size w).alloc (Nat.le_refl _) (.cells pa 29)
  have hsz : (w.alloc (.cells pa 29)).heap.size = w.heap.size + 1 := by simp
  generalize hW : w.alloc (.cells pa 29) = W at *
  have HW := Lib.hid hW
  have HB := Lib.hid hw0
  have HSZ := Lib.hid hsz
  clear hl hsf hs8 hfk hR hpa hw0 hf hsz hW
  obtain ⟨p0, p1⟩ := B0.patch
  have RF := B0.fieldsP
  have hu8 := Try.underlying25
  have HC0 := Lib.hid B0
  have HP1 := Lib.hid p1
  have HRF := Lib.hid RF
  clear B0 p1 RF
  rw [← HW.out] at p0
  by_cases h2 : x.toNat = 0
  · have b2 : ((x.toNat : Int) == 0) = true := by rw [h2]; rfl
    have HRR : Hid (R = 11) := Lib.hid (by rw [HR.out]; unfold pchk; rw [if_pos (.inr h2)])
    clear h2
    go_enter Try.func38, Try.ntmps38
    go_wp2_with fail
    go_ret
    exact ⟨by rw [HRR.out]; rfl, by rw [HW.out]; exact HB.out⟩
  · have b2 : ((x.toNat : Int) == 0) = false := by rw [beq_eq_false_iff_ne]; omega
    by_cases h1 : x.toNat ≤ 511
    · rw [decide_eq_true h1] at HM
      have hn : ¬ (511 < x.toNat ∨ x.toNat = 0) := by omega
      have HRN : Hid (R = if 65536 ≤ lab ∨ (lab ≠ 0 ∧ has x 8 = false) then 1 else if fok x f 8 then 0 else 1) := Lib.hid (by rw [HR.out]; unfold pchk; rw [if_neg hn])
      clear h1 h2 hn
      go_enter Try.func38, Try.ntmps38
      go_wp2_with fail
      rw [HW.out]
      clear p0
      obtain ⟨p0, p1⟩ := HC0.out.patch
      refine (HM.out _).mono ?_
      rintro e w' ⟨rfl, rfl⟩
      have RF := HRF.out
      go_wp2_with (first
        | (refine wpList_load_mid rfl 25 (.tmp 17) rfl w.heap.size 2 rfl (fcells f) _ RF hu8 rfl (by rw [HFL.out]; exact info_fields) ?_))
      clear p0 p1 RF
      refine (HS.out _).mono ?_
      rintro e w1 ⟨rfl, hb⟩
      have hb1 := HB.out.trans (hb.mono HB.out.size)
      have C0 := (HC0.out.later hb).alloc (.cells (fcells zeros).toArray 25)
      have hlt : w.heap.size < w1.heap.size := (HC0.out.later hb).lt
      have A5 := Blk.new w1 (fcells zeros) 25
      have TH := A5.there 0 24 (by rw [fcells_len, zeros_len]; omega)
      have E5 := A5.whole (ds := fcells sf) (by rw [HSF.out, fcells_len, zeros_len])
      have E0 := Blk.setsOther (b := w1.heap.size) (g := w.heap.size) (by omega) (fcells sf) 0 C0
      have EB := below_sets (B := w.heap.size) (b := w1.heap.size) (by omega) (fcells sf) 0 (hb1.alloc (by omega) (.cells (fcells zeros).toArray 25))
      have RS := E5.wholeC
      have RF := E0.fieldsP
      obtain ⟨p0, p1⟩ := E0.patch
      clear p0
      rw [HZ8.out] at TH RS RF p1 EB
      have HEB := Lib.hid EB
      clear hb hb1 C0 A5 E5 E0 EB HM HS HB HC0 HP1 HRF HW HSZ
      cases hll : decide (l = lab) with
      | false =>
        have bl : (l != lab) = true := by simpa using hll
        have HRR : Hid (R = 1) := Lib.hid (by
          rw [HRN.out, if_pos]
          have h : ¬ l = lab := by simpa using hll
          rw [HLL.out] at h
          right
          cases h8 : has x 8
          · rw [h8] at h
            exact ⟨fun e => h (by rw [e]; rfl), rfl⟩
          · rw [h8] at h
            exact absurd rfl h)
        clear hll
        go_wp2_with (first
          | (refine wpList_store_mid rfl 25 (.tmp 4) (.tmp 23) rfl w1.heap.size 0 (fcells sf).toArray rfl rfl (by simpa [HSF.out] using TH) (by simpa [HSF.out] using info_fields) (all_oneCell_toArray hone) ?_))
        go_ret
        exact ⟨by rw [HRR.out]; rfl, HEB.out⟩
      | true =>
        have bl : (l != lab) = false := by simpa using hll
        have hle : l = lab := by simpa using hll
        have HN8 : Hid (¬ (lab ≠ 0 ∧ has x 8 = false)) := Lib.hid (by
          rintro ⟨h1, h2⟩
          rw [HLL.out, h2] at hle
          exact h1 hle.symm)
        have HLE := Lib.hid hle
        clear hll hle
        cases hs : decide (sf = f) with
        | false =>
          have HRR : Hid (R = 1) := Lib.hid (by rw [HRN.out, HFK.out, hs]; simp)
          rw [hs] at HE
          clear hs
          go_wp2_with (first
            | (refine wpList_store_mid rfl 25 (.tmp 4) (.tmp 23) rfl w1.heap.size 0 (fcells sf).toArray rfl rfl (by simpa [HSF.out] using TH) (by simpa [HSF.out] using info_fields) (all_oneCell_toArray hone) ?_)
            | (refine wpList_load_g (by rfl) 25 (.tmp 4) rfl w1.heap.size 0 rfl (fcells sf) _ RS hu8 rfl (by rw [HSF.out]; exact info_fields) ?_)
            | (refine wpList_load_g (by rfl) 25 (.tmp 30) rfl w.heap.size 2 rfl (fcells f) _ RF hu8 rfl (by rw [HFL.out]; exact info_fields) ?_)
            | (refine wpList_exec (by rfl) (.bool true) (exec_neq 25 _ (.tmp 29) (.tmp 31) rfl _ _ rfl rfl guard_arr false (HE.out _)) ?_))
          go_ret
          exact ⟨by rw [HRR.out]; rfl, HEB.out⟩
        | true =>
          rw [hs] at HE
          have HSS := Lib.hid hs
          clear hs
          by_cases hg : 65535 < l
          · have dg : decide (65535 < l) = true := by simpa using hg
            have HRR : Hid (R = 1) := Lib.hid (by rw [HRN.out, if_pos]; left; rw [← HLE.out]; omega)
            clear hg
            go_wp2_with (first
              | (refine wpList_store_mid rfl 25 (.tmp 4) (.tmp 23) rfl w1.heap.size 0 (fcells sf).toArray rfl rfl (by simpa [HSF.out] using TH) (by simpa [HSF.out] using info_fields) (all_oneCell_toArray hone) ?_)
              | (refine wpList_load_g (by rfl) 25 (.tmp 4) rfl w1.heap.size 0 rfl (fcells sf) _ RS hu8 rfl (by rw [HSF.out]; exact info_fields) ?_)
              | (refine wpList_load_g (by rfl) 25 (.tmp 30) rfl w.heap.size 2 rfl (fcells f) _ RF hu8 rfl (by rw [HFL.out]; exact info_fields) ?_)
              | (refine wpList_exec (by rfl) (.bool false) (exec_neq 25 _ (.tmp 29) (.tmp 31) rfl _ _ rfl rfl guard_arr true (HE.out _)) ?_))
            go_ret
            exact ⟨by rw [HRR.out]; rfl, HEB.out⟩
          · have dg : decide (65535 < l) = false := by simpa using hg
            have HRV : Hid (R = if vk sf 8 then 0 else 1) := Lib.hid (by
              rw [HRN.out, if_neg (by rw [← HLE.out]; rintro (h | h); exact hg (by omega); exact HN8.out (by rw [← HLE.out]; exact h)), HFK.out, HSS.out, Bool.true_and])
            clear hg
            cases hv : vk sf 8 with
            | false =>
              rw [hv] at HV HRV
              have HRR : Hid (R = 1) := Lib.hid (by rw [HRV.out]; rfl)
              clear hv
              go_wp2_with (first
                | (refine wpList_store_mid rfl 25 (.tmp 4) (.tmp 23) rfl w1.heap.size 0 (fcells sf).toArray rfl rfl (by simpa [HSF.out] using TH) (by simpa [HSF.out] using info_fields) (all_oneCell_toArray hone) ?_)
                | (refine wpList_load_g (by rfl) 25 (.tmp 4) rfl w1.heap.size 0 rfl (fcells sf) _ RS hu8 rfl (by rw [HSF.out]; exact info_fields) ?_)
                | (refine wpList_load_g (by rfl) 25 (.tmp 30) rfl w.heap.size 2 rfl (fcells f) _ RF hu8 rfl (by rw [HFL.out]; exact info_fields) ?_)
                | (refine wpList_exec (by rfl) (.bool false) (exec_neq 25 _ (.tmp 29) (.tmp 31) rfl _ _ rfl rfl guard_arr true (HE.out _)) ?_))
              refine (HV.out _).mono ?_
              rintro e w2 ⟨rfl, hb⟩
              have hb2 := HEB.out.trans (hb.mono HEB.out.size)
              clear TH RS RF p1 HEB hb
              go_wp2_with fail
              go_ret
              exact ⟨by rw [HRR.out]; rfl, hb2⟩
            | true =>
              rw [hv] at HV HRV
              have HRR : Hid (R = 0) := Lib.hid (by rw [HRV.out]; rfl)
              clear hv
              go_wp2_with (first
                | (refine wpList_store_mid rfl 25 (.tmp 4) (.tmp 23) rfl w1.heap.size 0 (fcells sf).toArray rfl rfl (by simpa [HSF.out] using TH) (by simpa [HSF.out] using info_fields) (all_oneCell_toArray hone) ?_)
                | (refine wpList_load_g (by rfl) 25 (.tmp 4) rfl w1.heap.size 0 rfl (fcells sf) _ RS hu8 rfl (by rw [HSF.out]; exact info_fields) ?_)
                | (refine wpList_load_g (by rfl) 25 (.tmp 30) rfl w.heap.size 2 rfl (fcells f) _ RF hu8 rfl (by rw [HFL.out]; exact info_fields) ?_)
                | (refine wpList_exec (by rfl) (.bool false) (exec_neq 25 _ (.tmp 29) (.tmp 31) rfl _ _ rfl rfl guard_arr true (HE.out _)) ?_))
              refine (HV.out _).mono ?_
              rintro e w2 ⟨rfl, hb⟩
              have hb2 := HEB.out.trans (hb.mono HEB.out.size)
              clear TH RS RF p1 HEB hb
              go_wp2_with fail
              go_ret
              exact ⟨by rw [HRR.out]; rfl, hb2⟩
    · rw [decide_eq_false h1] at HM
      have HRR : Hid (R = 11) := Lib.hid (by rw [HR.out]; unfold pchk; rw [if_pos (.inl (by omega))])
      clear h1 h2
      go_enter Try.func38, Try.ntmps38
      go_wp2_with fail
      rw [HW.out]
      refine (HM.out _).mono ?_
      rintro e w' ⟨rfl, rfl⟩
      clear p0
      go_wp2_with fail
      go_ret
      exact ⟨by rw [HRR.out]; rfl, HB.out⟩
end Go.Proofs.Yticdpfjajkfheaa

/- Cards and patches as bytes: the mathematics. -/
namespace Go.Proofs.Yticdpfjajkfheaa
set_option linter.unusedVariables false
open Go Go.RowKit BitM OctM

/-- The fields below k that have a value. -/
def kl (f : List V3) (k : Nat) : List Int := ((List.range k).filter fun i => decide ((f.getD i zv).1 ≠ 0)).map fun i : Nat => (i : Int)
theorem kl_succ (f : List V3) (k : Nat) : kl f (k + 1) = kl f k ++ if (f.getD k zv).1 ≠ 0 then [(k : Int)] else [] := by
  unfold kl
  rw [List.range_succ, List.filter_append, List.map_append]
  by_cases h : (f.getD k zv).1 = 0
  · rw [List.filter_cons_of_neg (by rw [decide_eq_false (fun hn => hn h)]; exact Bool.false_ne_true), if_neg (fun hn => hn h)]; rfl
  · rw [List.filter_cons_of_pos (by rw [decide_eq_true h]), if_pos h]; rfl
theorem mem_kl (f : List V3) (k : Nat) (n : Int) : n ∈ kl f k ↔ ∃ i : Nat, i < k ∧ n = (i : Int) ∧ (f.getD i zv).1 ≠ 0 := by
  unfold kl
  simp only [List.mem_map, List.mem_filter, List.mem_range, decide_eq_true_eq]
  constructor
  · rintro ⟨i, ⟨h1, h2⟩, rfl⟩; exact ⟨i, h1, rfl, h2⟩
  · rintro ⟨i, h1, rfl, h2⟩; exact ⟨i, ⟨h1, h2⟩, rfl⟩
theorem zero_val {v : V3} (h : vchk v = true) : (zv ≠ v) ↔ v.1 ≠ 0 := by
  obtain ⟨k, n, s⟩ := v
  constructor
  · intro hne h0
    apply hne
    simp only at h0
    subst h0
    rw [vchk_0] at h
    obtain ⟨h1, h2⟩ := of_decide_eq_true h
    subst h1
    have : s = ⟨#[]⟩ := by
      apply ByteArray.ext
      apply Array.ext'
      rw [ByteArray.toList_eq] at h2
      exact h2
    rw [this]; rfl
  · intro hne e
    apply hne
    rw [← e]; rfl
theorem unl_kl (f : List V3) (hv : vk f 8 = true) : unl zeros f 8 = kl f 8 := by
  unfold unl kl
  congr 1
  refine List.filter_congr fun i hi => ?_
  have h8 : i < 8 := by simpa using hi
  have hz : zeros.getD i zv = zv := by
    unfold zeros
    rw [List.getD_eq_getElem?_getD, List.getElem?_replicate]
    split <;> rfl
  have hvi : vchk (f.getD i zv) = true := by
    unfold vk at hv
    exact List.all_eq_true.1 hv i hi
  rw [hz]
  exact decide_eq_decide.2 (zero_val hvi)
theorem klm (f : List V3) : mkm false (kl f 8) = ofl (kl f 8) := by
  apply BitM.ext
  intro n
  rw [has_mkm, has_ofl]
  simp only [Bool.false_and, Bool.or_false]
  by_cases hm : n ∈ kl f 8
  · obtain ⟨i, h1, rfl, _⟩ := (mem_kl f 8 n).1 hm
    rw [decide_eq_true (show 0 ≤ (i : Int) ∧ (i : Int) < 8 by omega), decide_eq_true (show 0 ≤ (i : Int) ∧ (i : Int) < 32 by omega)]
  · rw [decide_eq_false hm]; simp
theorem dmask_kl (lab : Int) (f : List V3) (hv : vk f 8 = true) : dmask lab zeros lab f = ofl (kl f 8) := by
  unfold dmask
  rw [unl_kl f hv, decide_eq_false (by simp), klm]
theorem lst_end {x : BitVec 32} {j : Nat} (h : ∀ i : Nat, j ≤ i → has x (i : Int) = false) : ∀ k, j ≤ k → lst x k = lst x j
  | 0, hk => by rw [show j = 0 by omega]
  | k + 1, hk => by
    by_cases e : j = k + 1
    · rw [e]
    · rw [lst_succ, h k (by omega), lst_end h k (by omega)]; simp
theorem flds_kl (f : List V3) : flds (ofl (kl f 8)) = kl f 8 := by
  have hh : ∀ n : Int, has (ofl (kl f 8) &&& 255#32) n = (decide (0 ≤ n ∧ n < 8) && decide (n ∈ kl f 8)) := by
    intro n
    rw [has_and_255, has_ofl]
    by_cases h1 : 0 ≤ n ∧ n < 8
    · rw [decide_eq_true h1, decide_eq_true (show 0 ≤ n ∧ n < 32 by omega), decide_eq_true h1.2]; simp
    · rw [decide_eq_false h1]
      by_cases hm : n ∈ kl f 8
      · obtain ⟨i, h2, rfl, _⟩ := (mem_kl f 8 n).1 hm
        exact absurd ⟨by omega, by omega⟩ h1
      · rw [decide_eq_false hm]; simp
  unfold flds
  rw [lst_end (j := 8) (fun i hi => by rw [hh, decide_eq_false (by omega), Bool.false_and]) 32 (by omega)]
  unfold lst
  conv => rhs; unfold kl
  congr 1
  refine List.filter_congr fun i hi => ?_
  have h8 : i < 8 := by simpa using hi
  rw [hh, decide_eq_true (show 0 ≤ (i : Int) ∧ (i : Int) < 8 by omega), Bool.true_and]
  refine decide_eq_decide.2 ?_
  rw [mem_kl]
  constructor
  · rintro ⟨j, _, h2, h3⟩
    obtain rfl : i = j := by omega
    exact h3
  · intro h; exact ⟨i, h8, rfl, h⟩
/-- A card's bytes. -/
def cbs (id ver lab : Int) (f : List V3) : List UInt8 := if ccheck id ver lab f = false then [] else (((enc (held id) ++ enc (held ver)) ++ enc (held lab)) ++ enc (held ((ofl (kl f 8)).toNat : Int))) ++ fbs (kl f 8) f
/-- A patch's bytes. -/
def pbs (x : BitVec 32) (lab : Int) (f : List V3) : List UInt8 := if pchk x lab f ≠ 0 then [] else (enc (held (x.toNat : Int)) ++ (if has x 8 = true then enc (held lab) else [])) ++ fbs (flds x) f
theorem fbs_len (L : List Int) (f : List V3) : (fbs L f).length ≤ 40 * L.length := by
  induction L with
  | nil => simp [fbs]
  | cons i L ih =>
    have := vbs_len (f.getD i.toNat zv)
    simp only [fbs, List.flatMap_cons, List.length_append, List.length_cons] at *
    omega
theorem kl_len (f : List V3) (k : Nat) : (kl f k).length ≤ k := by
  unfold kl
  rw [List.length_map]
  have := List.length_filter_le (fun i => decide ((f.getD i zv).1 ≠ 0)) (List.range k)
  simpa using this
theorem cbs_len (id ver lab : Int) (f : List V3) : (cbs id ver lab f).length ≤ 400 := by
  unfold cbs
  split
  · simp
  · simp only [List.length_append]
    have h1 := held_len id
    have h2 := held_len ver
    have h3 := held_len lab
    have h4 := held_len ((ofl (kl f 8)).toNat : Int)
    have h5 := fbs_len (kl f 8) f
    have h6 := kl_len f 8
    omega
theorem zclab (lab : Int) : (ccells 0 0 lab zeros).toArray = #[Value.int .i64 0, .int .i64 0, .int .u32 lab, .int .i64 0, .int .i64 0, .string { data := #[] }, .int .i64 0, .int .i64 0, .string { data := #[] }, .int .i64 0, .int .i64 0, .string { data := #[] }, .int .i64 0, .int .i64 0, .string { data := #[] }, .int .i64 0, .int .i64 0, .string { data := #[] }, .int .i64 0, .int .i64 0, .string { data := #[] }, .int .i64 0, .int .i64 0, .string { data := #[] }, .int .i64 0, .int .i64 0, .string { data := #[] }] := rfl

theorem flat2 {w : World} {A B : Option Addr} {n c m d : Nat} {l r : List UInt8} (T : TypeId) (hn : l.length = n) (hm : r.length = m) (hs : Sees w w.heap.size A (bvs l)) (ht : Sees w w.heap.size B (bvs r)) :
    FlatAt (w.alloc (.cells #[.slice A n c, .slice B m d] T)) w.heap.size [l, r] := fun k hk => by
  have hB := Blk.new w [.slice A n c, .slice B m d] T
  match k, hk with
  | 0, _ => exact ⟨A, c, by subst hn; exact hB.cell (j := 0) rfl, (hs.alloc (Nat.le_refl _) _).more (by simp)⟩
  | 1, _ => exact ⟨B, d, by subst hm; exact hB.cell (j := 1) rfl, (ht.alloc (Nat.le_refl _) _).more (by simp)⟩
/-- A slot that holds a slice of these bytes. -/
def relSee (n : Nat) (l : List UInt8) : Rel where
  rel v w := ∃ A c, v = .slice A n c ∧ Sees w w.heap.size A (bvs l)
  mono := fun v w w' h ⟨A, c, e, hs⟩ => ⟨A, c, e, (hs.below h).more h.size⟩
  real := fun w ⟨A, c, e, _⟩ => by cases e
theorem gives_see {w : World} {xs : List UInt8} {n : Nat} (hn : xs.length = n) {e : Ending} {w' : World} (h : GivesBytes w xs e w') : ∃ v, e = .returned v ∧ Below w.heap.size w w' ∧ (relSee n xs).rel v w' := by
  obtain ⟨A, c, rfl, ho, hb⟩ := h
  subst hn
  exact ⟨_, rfl, hb, A, c, rfl, ho.sees⟩

set_option maxRecDepth 100000 in
set_option maxHeartbeats 3200000 in
theorem putcard_any (id ver lab : Int) (f : List V3) (A : Option Addr) (n c : Nat) (l : List UInt8) (w : World) (hf : f.length = 8) (hlb : 0 ≤ lab) (hn : l.length = n) (hs : Sees w w.heap.size A (bvs l)) (hm : n ≤ 10000) :
    Calls Try.prog 11 #[.slice A n c, .agg (ccells id ver lab f).toArray] w (GivesBytes w (l ++ cbs id ver lab f)) := by
  have HCK := Lib.hid (fun wx : World => ccheck_any id ver lab f wx hf)
  have HCL := Lib.hid (fun (wx : World) (hb : Below w.heap.size w wx) => clone_any A n c l wx hn ((hs.below hb).more hb.size) (by omega))
  have HDF := Lib.hid (fun wx : World => diff_any 0 0 lab id ver lab zeros f wx zeros_len hf)
  have HPLen : Hid ((ccells id ver lab f).length = 27) := Lib.hid (ccells_len id ver lab hf)
  have B0 := Blk.new w (ccells id ver lab f) 27
  have RF := B0.fieldsC
  obtain ⟨q0, q1, q2⟩ := B0.card
  obtain ⟨pc, hpc⟩ : ∃ pc, pc = ccells id ver lab f := ⟨_, rfl⟩
  rw [← hpc] at HCK HDF B0 HPLen RF q0 q1 q2 ⊢
  have hb0 := (Below.refl w.heap.size w).alloc (Nat.le_refl _) (.cells pc.toArray 27)
  have RG := B0.wholeC
  have hu := Try.underlying27
  have HFL : Hid ((fcells f).length = 24) := Lib.hid (by rw [fcells_len, hf])
  have hu8 := Try.underlying25
  rw [zclab lab] at HDF
  obtain ⟨ok, hok⟩ : ∃ b, b = ccheck id ver lab f := ⟨_, rfl⟩
  rw [← hok] at HCK
  cases ok
  · have HB : Hid (l ++ cbs id ver lab f = l) := Lib.hid (by unfold cbs; rw [if_pos hok.symm]; simp)
    rw [HB.out]
    clear HB hok hpc q0 q1 q2 RF hs hn
    go_enter Try.func11, Try.ntmps11
    go_wp2_with (first
      | (refine wpList_load_mid rfl 27 (.tmp 3) rfl w.heap.size 0 rfl pc _ RG hu rfl (by rw [HPLen.out]; exact info_card) ?_)
      | fail)
    refine (HCK.out _).mono ?_
    rintro e w1 ⟨rfl, hb1⟩
    have hbw := hb0.trans (hb1.mono hb0.size)
    clear RG hb1 hb0
    go_wp2_with fail
    refine (HCL.out _ hbw).mono ?_
    rintro e w2 ⟨A2, c2, rfl, ho, hb2⟩
    go_wp2_with fail
    go_ret
    exact ⟨A2, c2, rfl, ho.lower hbw.size, hbw.trans (hb2.mono hbw.size)⟩
  · obtain ⟨hid, hver, hlab, hvk⟩ : (1 ≤ id ∧ id < 1073741824) ∧ (1 ≤ ver ∧ ver ≤ 1099511627776) ∧ lab < 65536 ∧ vk f 8 = true := by
      have h := hok.symm
      unfold ccheck at h
      rw [Bool.and_eq_true] at h
      have h1 := of_decide_eq_true h.1
      exact ⟨⟨h1.1, h1.2.1⟩, ⟨h1.2.2.1, h1.2.2.2.1⟩, h1.2.2.2.2, h.2⟩
    rw [dmask_kl lab f hvk] at HDF
    have HB : Hid (l ++ cbs id ver lab f = l ++ ((((enc (held id) ++ enc (held ver)) ++ enc (held lab)) ++ enc (held ((ofl (kl f 8)).toNat : Int))) ++ fbs (kl f 8) f)) := Lib.hid (by unfold cbs; rw [if_neg (by rw [← hok]; simp)])
    obtain ⟨R, hR⟩ : ∃ R, R = l ++ cbs id ver lab f := ⟨_, rfl⟩
    rw [← hR] at HB ⊢
    obtain ⟨x, hx⟩ : ∃ x, x = ofl (kl f 8) := ⟨_, rfl⟩
    have HX := Lib.hid (fun (A' : Option Addr) (n' c' : Nat) (l' : List UInt8) (wx : World) (hn' : l'.length = n') (hs' : Sees wx wx.heap.size A' (bvs l')) (hm' : n' ≤ 10000) => putvals_any x f A' n' c' l' wx hf hn' hs' hm')
    rw [hx, flds_kl, ← hx] at HX
    rw [← hx] at HB HDF
    have hx4 := x.isLt
    obtain ⟨X, hX⟩ : ∃ X, X = x.toNat := ⟨_, rfl⟩
    rw [← hX] at HDF HX HB hx4
    clear hok hvk hR hx hX
    have HPC := Lib.hid hpc
    clear hpc
    go_enter Try.func11, Try.ntmps11
    go_wp2_with (first
      | (refine wpList_load_mid rfl 27 (.tmp 3) rfl w.heap.size 0 rfl pc _ RG hu rfl (by rw [HPLen.out]; exact info_card) ?_)
      | fail)
    refine (HCK.out _).mono ?_
    rintro e w1 ⟨rfl, hb1⟩
    have hbw := hb0.trans (hb1.mono hb0.size)
    replace B0 := B0.later hb1
    have p0 := (hb1.cell (p := ⟨w.heap.size, 0, none⟩) (by simp)).trans q0
    have p1 := (hb1.cell (p := ⟨w.heap.size, 1, none⟩) (by simp)).trans q1
    have p2 := (hb1.cell (p := ⟨w.heap.size, 2, none⟩) (by simp)).trans q2
    replace RG := B0.wholeC
    clear RF hb1 hb0 q0 q1 q2
    go_wp2_with (first
      | (refine wpList_load_mid rfl 27 (.tmp 3) rfl w.heap.size 0 rfl pc _ RG hu rfl (by rw [HPLen.out]; exact info_card) ?_)
      | fail)
    refine (HDF.out _).mono ?_
    rintro e w2 ⟨rfl, hb2⟩
    replace hbw := hbw.trans (hb2.mono hbw.size)
    replace B0 := B0.later hb2
    have k0 : ∀ kk : LW w2, kk.val.cell? ⟨w.heap.size, 0, none⟩ = some (.int .i64 id) := fun kk => (kk.le.cell (p := ⟨w.heap.size, 0, none⟩) B0.lt).trans ((hb2.cell (p := ⟨w.heap.size, 0, none⟩) (cell_lt p0)).trans p0)
    have k1 : ∀ kk : LW w2, kk.val.cell? ⟨w.heap.size, 1, none⟩ = some (.int .i64 ver) := fun kk => (kk.le.cell (p := ⟨w.heap.size, 1, none⟩) B0.lt).trans ((hb2.cell (p := ⟨w.heap.size, 1, none⟩) (cell_lt p1)).trans p1)
    have K2 := Lib.hid (fun (wx : World) (hl : Le w2 wx) => (hl.cell (p := ⟨w.heap.size, 2, none⟩) B0.lt).trans ((hb2.cell (p := ⟨w.heap.size, 2, none⟩) (cell_lt p2)).trans p2))
    clear RG p0 p1 p2 hb2 HDF HCK HCL
    obtain ⟨r1, hr1⟩ : ∃ r, r = enc (held id) := ⟨_, rfl⟩
    obtain ⟨r2, hr2⟩ : ∃ r, r = r1 ++ enc (held ver) := ⟨_, rfl⟩
    obtain ⟨r3, hr3⟩ : ∃ r, r = r2 ++ enc (held lab) := ⟨_, rfl⟩
    obtain ⟨r4, hr4⟩ : ∃ r, r = r3 ++ enc (held (X : Int)) := ⟨_, rfl⟩
    have e1 : r1.length ≤ 6 := by rw [hr1]; exact held_len id
    have e2 : r2.length ≤ 12 := by rw [hr2, List.length_append]; have := held_len ver; omega
    have e3 : r3.length ≤ 18 := by rw [hr3, List.length_append]; have := held_len lab; omega
    have e4 : r4.length ≤ 24 := by rw [hr4, List.length_append]; have := held_len (X : Int); omega
    rw [← hr1, ← hr2, ← hr3, ← hr4] at HB
    obtain ⟨r5, hr5⟩ : ∃ r, r = r4 ++ fbs (kl f 8) f := ⟨_, rfl⟩
    rw [← hr5] at HB
    have e5 : r5.length ≤ 400 := by
      rw [hr5, List.length_append]
      have h5 := fbs_len (kl f 8) f
      have h6 := kl_len f 8
      omega
    have HN1 : Hid (∀ wx : World, Calls Try.prog 29 #[.slice none 0 0, .int .i64 id] wx (GivesBytes wx r1)) := Lib.hid (fun wx => by
      have h := oct_num none 0 0 [] id wx rfl Sees.nil_ (by omega)
      rw [List.nil_append, ← hr1] at h
      exact h)
    obtain ⟨n1, hn1⟩ : ∃ n, n = r1.length := ⟨_, rfl⟩
    obtain ⟨n2, hn2⟩ : ∃ n, n = r2.length := ⟨_, rfl⟩
    obtain ⟨n3, hn3⟩ : ∃ n, n = r3.length := ⟨_, rfl⟩
    obtain ⟨n4, hn4⟩ : ∃ n, n = r4.length := ⟨_, rfl⟩
    have HN2 : Hid (∀ (A' : Option Addr) (c' : Nat) (wx : World), Sees wx wx.heap.size A' (bvs r1) → Calls Try.prog 29 #[.slice A' n1 c', .int .i64 ver] wx (GivesBytes wx r2)) := Lib.hid (fun A' c' wx hs' => by
      have h := oct_num A' n1 c' r1 ver wx hn1.symm hs' (by omega)
      rw [← hr2] at h; exact h)
    have HN3 : Hid (∀ (A' : Option Addr) (c' : Nat) (wx : World), Sees wx wx.heap.size A' (bvs r2) → Calls Try.prog 29 #[.slice A' n2 c', .int .i64 lab] wx (GivesBytes wx r3)) := Lib.hid (fun A' c' wx hs' => by
      have h := oct_num A' n2 c' r2 lab wx hn2.symm hs' (by omega)
      rw [← hr3] at h; exact h)
    have HN4 : Hid (∀ (A' : Option Addr) (c' : Nat) (wx : World), Sees wx wx.heap.size A' (bvs r3) → Calls Try.prog 29 #[.slice A' n3 c', .int .i64 (X : Int)] wx (GivesBytes wx r4)) := Lib.hid (fun A' c' wx hs' => by
      have h := oct_num A' n3 c' r3 (X : Int) wx hn3.symm hs' (by omega)
      rw [← hr4] at h; exact h)
    have HN5 : Hid (∀ (A' : Option Addr) (c' : Nat) (wx : World), Sees wx wx.heap.size A' (bvs r4) → Calls Try.prog 36 #[.slice A' n4 c', .int .u32 (X : Int), .agg (fcells f).toArray] wx (SeesBytes wx r5)) := Lib.hid (fun A' c' wx hs' => by
      have h := HX.out A' n4 c' r4 wx hn4.symm hs' (by omega)
      rw [← hr5] at h; exact h)
    have M1 := Lib.hid hn1
    have M2 := Lib.hid hn2
    have M3 := Lib.hid hn3
    have M4 := Lib.hid hn4
    have HS := Lib.hid hs
    have HNL := Lib.hid hn
    clear hr1 hr2 hr3 hr4 hr5 hn1 hn2 hn3 hn4 HX hs hn e1 e2 e3 e4
    go_wp2_with fail
    refine wp_region_steady [(19, relSee n1 r1), (22, relSee n2 r2)] 39 (by kernel_rfl) (by kernel_rfl) (by kernel_rfl) (by rfl) ?_
    iterate 2 (refine wpG_quiet (by rfl) (by rfl) (by rfl) (fun K hK => ?_); go_big_quiet_op; refine hK _ ?_; clear hK K)
    refine wpG_calls (relSee n1 r1) (by rfl) (by rfl) 29 #[.slice none 0 0, .int .i64 id] (by intro _; simp [go_sem]) (fun w1 hl => (HN1.out w1).mono fun e w' h => gives_see M1.out.symm h) ?_
    rintro _ ⟨_, _, _, ⟨A1, c1, rfl, _⟩⟩
    simp only [Act.put, List.setIfInBounds_toArray, List.set_cons_zero, List.set_cons_succ]
    iterate 2 (refine wpG_quiet (by rfl) (by rfl) (by rfl) (fun K hK => ?_); go_big_quiet_op; refine hK _ ?_; clear hK K)
    refine wpG_calls (relSee n2 r2) (by rfl) (by rfl) 29 #[.slice A1 n1 c1, .int .i64 ver] (by intro _; simp [go_sem]) (fun w1 hl => ?_) ?_
    · obtain ⟨A2, c2, h2, s2⟩ := hl.2 19 _ (by simp [Op.operands, Call.operands]) rfl (by intro h; cases h)
      cases h2
      exact (HN2.out _ _ _ s2).mono fun e w' h => gives_see M2.out.symm h
    rintro _ ⟨_, _, _, ⟨A2, c2, rfl, _⟩⟩
    simp only [Act.put, List.setIfInBounds_toArray, List.set_cons_zero, List.set_cons_succ]
    iterate 1 (refine wpG_quiet (by rfl) (by rfl) (by rfl) (fun K hK => ?_); go_big_quiet_op; refine hK _ ?_; clear hK K)
    refine wpG_nil fun w3 hl hs1 => ?_
    obtain ⟨_, A2', c2', eq2, s2⟩ := hs1
    cases eq2
    have p2 := K2.out w3 hl
    replace B0 := B0.later hl
    replace hbw := hbw.trans (hl.mono hbw.size)
    clear k0 k1 hl K2
    go_wp2_with fail
    refine (HN3.out _ _ _ s2).mono ?_
    rintro e w4 ⟨A3, c3, rfl, o3, b3⟩
    have hs3 := o3.sees
    replace B0 := B0.later b3
    replace hbw := hbw.trans (b3.mono hbw.size)
    rw [← M3.out]
    clear o3 b3 s2 p2
    go_wp2_with fail
    refine (HN4.out _ _ _ hs3).mono ?_
    rintro e w5 ⟨A4, c4, rfl, o4, b4⟩
    have hs4 := o4.sees
    replace B0 := B0.later b4
    replace hbw := hbw.trans (b4.mono hbw.size)
    rw [← M4.out]
    clear o4 b4 hs3
    have RF : w5.rangeAt w.heap.size 3 (fcells f) := Blk.fieldsC (by rw [← HPC.out]; exact B0)
    go_wp2_with (first
      | (refine wpList_load_mid rfl 25 (.tmp 34) rfl w.heap.size 3 rfl (fcells f) _ RF hu8 rfl (by rw [HFL.out]; exact info_fields) ?_)
      | fail)
    refine (HN5.out _ _ _ hs4).mono ?_
    rintro e w6 ⟨A5, c5, rfl, s5, b5⟩
    replace hbw := hbw.trans (b5.mono hbw.size)
    have hsA : Sees w6 w6.heap.size A (bvs l) := (HS.out.below hbw).more hbw.size
    obtain ⟨n5, hn5⟩ : ∃ n, n = r5.length := ⟨_, rfl⟩
    rw [← hn5]
    have HCC := Lib.hid (concat_any w6.heap.size 2 2 [l, r5] (w6.alloc (.cells #[.slice A n c, .slice A5 n5 c5] 30)) rfl (by simp) (flat2 30 HNL.out hn5.symm hsA s5) (by omega) (by have := HNL.out; simp; omega))
    have HFL2 : Hid ([l, r5].flatten = R) := Lib.hid (by rw [HB.out]; simp)
    rw [HFL2.out] at HCC
    have hbw2 := hbw.alloc hbw.size (.cells #[.slice A n c, .slice A5 n5 c5] 30)
    clear hn5 s5 b5 hs4 B0 RF hsA hbw
    go_wp2_with fail
    refine HCC.out.mono ?_
    rintro e w7 ⟨A7, c7, rfl, o7, b7⟩
    go_wp2_with fail
    go_ret
    exact ⟨A7, c7, rfl, o7.lower hbw2.size, hbw2.trans (b7.mono hbw2.size)⟩
end Go.Proofs.Yticdpfjajkfheaa

/- Cards as they are read of bytes: the document's: the walk. -/
namespace Go.Proofs.Yticdpfjajkfheaa
set_option linter.unusedVariables false
open Go Go.RowKit OctM BitM

/-- The numbers from k on that are in a set, n of them looked at. -/
def fromL (x : BitVec 32) : Nat → Nat → List Int
  | 0, _ => []
  | n + 1, k => (if has x (k : Int) = true then [(k : Int)] else []) ++ fromL x n (k + 1)
theorem from_lst (x : BitVec 32) : ∀ (n k : Nat), lst x (k + n) = lst x k ++ fromL x n k
  | 0, k => by simp [fromL]
  | n + 1, k => by
    have h := from_lst x n (k + 1)
    rw [show k + (n + 1) = k + 1 + n by omega, h, lst_succ, fromL, List.append_assoc]
theorem from_and (x : BitVec 32) : ∀ (n k : Nat), k + n ≤ 8 → fromL (x &&& 255#32) n k = fromL x n k
  | 0, _, _ => rfl
  | n + 1, k, h => by
    rw [fromL, fromL, from_and x n (k + 1) (by omega), has_and_255, decide_eq_true (show (k : Int) < 8 by omega), Bool.and_true]
theorem flds_from (x : BitVec 32) : flds x = fromL x 8 0 := by
  unfold flds
  rw [lst_end (j := 8) (fun i hi => by rw [has_and_255, decide_eq_false (by omega), Bool.and_false]) 32 (by omega)]
  have h := from_lst (x &&& 255#32) 8 0
  rw [Nat.zero_add] at h
  rw [h, from_and x 8 0 (by omega)]
  rfl
theorem numOut_err (l : List UInt8) (a : Nat) (e m : Int) (h : (numOut l a e m).2.2 ≠ 0) : (numOut l a e m).1 = 0 := by
  unfold numOut at *
  split at h
  · rename_i h1; rw [if_pos h1]
  · rename_i h1
    split at h
    · rename_i h2; rw [if_neg h1, if_pos h2]
    · rename_i h2
      split at h
      · rename_i h3; rw [if_neg h1, if_neg h2, if_pos h3]
      · exact absurd rfl h

set_option maxRecDepth 100000 in
set_option maxHeartbeats 6400000 in
theorem rr_card (base g : Nat) (l : List UInt8) (a : Nat) (e : Int) (w : World) (h : Rr w base g (l.drop a) e) (ha : a ≤ l.length) (hm : l.length ≤ 2000) :
    Calls Try.prog 19 #[.pointer (some ⟨g, 0, none⟩)] w fun x w' => x = .returned (.agg (cc4 (cardOut l a e).1).toArray) ∧ Rr w' base g (l.drop (cardOut l a e).2.1) (cardOut l a e).2.2 ∧ w.grownBy w' (some g) := by
  have hg := h.block.2
  obtain ⟨T, hT⟩ : ∃ T, T = cardOut l a e := ⟨_, rfl⟩
  rw [← hT]
  have HA := Lib.hid (fun wx (hx : Rr wx base g (l.drop a) e) => rr_aboved base g l a e 1073741823 wx hx hm)
  have A1 := abvOut_at l a e 1073741823 ha
  obtain ⟨rA, hA⟩ : ∃ r, r = abvOut l a e 1073741823 := ⟨_, rfl⟩
  rw [← hA] at HA A1
  obtain ⟨vA, aA, eA⟩ := rA
  simp only at HA A1
  have HB := Lib.hid (fun wx (hx : Rr wx base g (l.drop aA) eA) => rr_aboved base g l aA eA 1099511627776 wx hx hm)
  have A2 := abvOut_at l aA eA 1099511627776 A1
  obtain ⟨rB, hB⟩ : ∃ r, r = abvOut l aA eA 1099511627776 := ⟨_, rfl⟩
  rw [← hB] at HB A2
  obtain ⟨vB, aB, eB⟩ := rB
  simp only at HB A2
  have HC := Lib.hid (fun wx (hx : Rr wx base g (l.drop aB) eB) => rr_numd base g l aB eB 65535 wx hx hm)
  have A3 := numOut_at l aB eB 65535 A2
  have BC := numOut_le l aB eB 65535 (by omega)
  obtain ⟨rC, hC⟩ : ∃ r, r = numOut l aB eB 65535 := ⟨_, rfl⟩
  rw [← hC] at HC A3 BC
  obtain ⟨vC, aC, eC⟩ := rC
  simp only at HC A3 BC
  have HD := Lib.hid (fun wx (hx : Rr wx base g (l.drop aC) eC) => rr_numd base g l aC eC 255 wx hx hm)
  have A4 := numOut_at l aC eC 255 A3
  have BD := numOut_le l aC eC 255 (by omega)
  obtain ⟨rD, hD⟩ : ∃ r, r = numOut l aC eC 255 := ⟨_, rfl⟩
  rw [← hD] at HD A4 BD
  obtain ⟨vD, aD, eD⟩ := rD
  simp only at HD A4 BD
  obtain ⟨x, hx⟩ : ∃ x : BitVec 32, vD = x.toNat := ⟨BitVec.ofNat 32 vD, by rw [BitVec.toNat_ofNat]; omega⟩
  subst hx
  have kA : cardA l a e = (vA, aA, eA) := hA.symm
  have kB : cardB l a e = (vB, aB, eB) := by unfold cardB; rw [kA]; exact hB.symm
  have kC : cardC l a e = (vC, aC, eC) := by unfold cardC; rw [kB]; exact hC.symm
  have kD : cardD l a e = (x.toNat, aD, eD) := by unfold cardD; rw [kC]; exact hD.symm
  have kE : cardE l a e = fldsOut true l (fromL x 8 0) zeros aD eD := by
    unfold cardE
    rw [kD, BitVec.ofNat_toNat, BitVec.setWidth_eq, flds_from]
  unfold cardOut at hT
  rw [kA, kB, kC, kE] at hT
  obtain ⟨FR, hFR⟩ : ∃ FR, FR = fldsOut true l (fromL x 8 0) zeros aD eD := ⟨_, rfl⟩
  rw [← hFR] at hT
  simp only at hT
  obtain ⟨id, hid⟩ : ∃ z : Int, z = (vA : Int) := ⟨_, rfl⟩
  obtain ⟨ver, hver⟩ : ∃ z : Int, z = (vB : Int) := ⟨_, rfl⟩
  obtain ⟨lab, hlab⟩ : ∃ z : Int, z = (vC : Int) := ⟨_, rfl⟩
  rw [← hid, ← hver, ← hlab] at hT
  rw [← hid] at HA
  rw [← hver] at HB
  rw [← hlab] at HC
  have HT := Lib.hid hT
  have HFR0 : Hid (FR = if eD = 0 then fldsOut true l (fromL x (8 - 0) 0) zeros aD eD else (zeros, aD, eD)) := Lib.hid (by
    rw [hFR]
    split
    · rfl
    · rename_i hne
      have hx0 : x.toNat = 0 := by
        have h2 := numOut_err l aC eC 255
        rw [← hD] at h2
        exact h2 hne
      have : x = 0#32 := BitVec.eq_of_toNat_eq hx0
      rw [this]
      rfl)
  have hwc : IntKind.u32.wrap lab = lab := by
    have h2 := wrap_nat (BitVec.ofNat 32 vC)
    rwa [BitVec.toNat_ofNat, Nat.mod_eq_of_lt (by omega), ← hlab] at h2
  have hwx : IntKind.u32.wrap (x.toNat : Int) = (x.toNat : Int) := wrap_nat x
  have HA4 := Lib.hid A4
  have HM := Lib.hid hm
  clear hid hver hlab BC BD
  clear hT hFR kA kB kC kD kE hA hB hC hD ha hm A1 A2 A3 A4
  have HX := Lib.hid (fun (k : Int) (wx : World) => rhas_any x k wx)
  have HZ := Lib.hid zc27
  obtain ⟨zs, hzs⟩ : ∃ zs, zs = (ccells 0 0 0 zeros) := ⟨_, rfl⟩
  have HZL := Lib.hid (show zs.length = 27 by rw [hzs]; exact ccells_len 0 0 0 zeros_len)
  have hone : zs.toArray.all (·.oneCell') = true := all_oneCell_toArray (by rw [hzs]; exact ccells_one _ _ _ _)
  rw [← hzs] at HZ
  have HZS := Lib.hid hzs
  clear hzs
  have Bz := Blk.new (w.alloc (.cells zs.toArray 27)) zs 27
  have B := (Blk.new w zs 27).alloc (.cells zs.toArray 27)
  have hs1 : (w.alloc (.cells zs.toArray 27)).heap.size = w.heap.size + 1 := by simp
  rw [hs1] at Bz
  have T0 := Bz.there 0 27 (by rw [HZL.out]; omega)
  have S := Bz.wholeT (ds := zs) rfl
  replace B := Blk.setsOther (b := w.heap.size + 1) (g := w.heap.size) (by omega) zs 0 B
  have hw0 : Below w.heap.size w (World.setCells ((w.alloc (.cells zs.toArray 27)).alloc (.cells zs.toArray 27)) (w.heap.size + 1) 0 zs) := below_sets (by omega) _ 0 (((Below.refl w.heap.size w).alloc (Nat.le_refl _) _).alloc (by simp) _)
  have R := h.later hw0
  have G := grown_none hw0 (some g)
  have hu := Try.underlying27
  have ne1 : (some g : Option Nat) ≠ some w.heap.size := by simp; omega
  have ne3 : (some g : Option Nat) ≠ some (w.heap.size + 1) := by simp; omega
  obtain ⟨r, hr⟩ : ∃ r, r = w.heap.size := ⟨_, rfl⟩
  clear Bz hs1 h hw0
  go_enter Try.func19, Try.ntmps19
  go_wp2_with (first
    | (rw [← HZ.out]
       refine wpList_store_mid rfl 27 (.tmp 3) (.tmp 6) rfl (w.heap.size + 1) 0 zs.toArray rfl (by rw [HZS.out]; rfl) (by simpa [HZL.out] using T0) (by simpa [HZL.out] using info_card) hone ?_
       simp only [Act.put]
       generalize hw3 : World.setCells _ (w.heap.size + 1) 0 zs.toArray.toList = w3
       replace S : Blk w3 (w.heap.size + 1) zs := hw3 ▸ S
       replace B : Blk w3 w.heap.size zs := hw3 ▸ B
       replace R : Rr w3 base g (l.drop a) e := hw3 ▸ R
       replace G : w.grownBy w3 (some g) := hw3 ▸ G
       clear hw3 T0)
    | fail)
  rw [HZS.out] at S
  obtain ⟨gC, hgC⟩ : ∃ z, z = w.heap.size + 1 := ⟨_, rfl⟩
  rw [← hgC] at S ne3
  have hCr : r < gC := by omega
  have HRS := Lib.hid hr
  rw [← hr] at B ne1 hg
  rw [← hgC, ← hr]
  have hgs : w.heap.size ≤ gC := by omega
  clear hgC hr
  refine (HA.out _ R).mono ?_
  rintro x' wA ⟨rfl, RA, GA⟩
  replace S := S.kept GA ne3
  replace B := B.kept GA ne1
  replace G := G.trans GA
  have f0 := S.frozen 0
  have q0 : wA.cell? ⟨gC, 0, none⟩ = some (.int .i64 0) := S.cell rfl
  have S2 : Blk (wA.setCell ⟨gC, 0, none⟩ (.int .i64 id)) gC (ccells id 0 0 zeros) := S.set 0 _
  have R2 := RA.off (grown_set1 wA gC 0 (.int .i64 id)) (by omega)
  have B2 := B.setOther (b := gC) 0 (.int .i64 id) (by omega)
  have G2 := grown_new G (grown_set1 wA gC 0 (.int .i64 id)) (by omega)
  clear S B G R RA GA
  go_wp2_with fail
  obtain ⟨wB, hwB⟩ : ∃ z, z = wA.setCell ⟨gC, 0, none⟩ (.int .i64 id) := ⟨_, rfl⟩
  rw [← hwB] at S2 R2 B2 G2 ⊢
  clear hwB f0 q0
  have S := S2
  have R := R2
  have B := B2
  have G := G2
  clear S2 R2 B2 G2
  refine (HB.out _ R).mono ?_
  rintro x' wA ⟨rfl, RA, GA⟩
  replace S := S.kept GA ne3
  replace B := B.kept GA ne1
  replace G := G.trans GA
  have f0 := S.frozen 1
  have q0 : wA.cell? ⟨gC, 1, none⟩ = some (.int .i64 0) := S.cell rfl
  have S2 : Blk (wA.setCell ⟨gC, 1, none⟩ (.int .i64 ver)) gC (ccells id ver 0 zeros) := S.set 1 _
  have R2 := RA.off (grown_set1 wA gC 1 (.int .i64 ver)) (by omega)
  have B2 := B.setOther (b := gC) 1 (.int .i64 ver) (by omega)
  have G2 := grown_new G (grown_set1 wA gC 1 (.int .i64 ver)) (by omega)
  clear S B G R RA GA
  go_wp2_with fail
  obtain ⟨wB, hwB⟩ : ∃ z, z = wA.setCell ⟨gC, 1, none⟩ (.int .i64 ver) := ⟨_, rfl⟩
  rw [← hwB] at S2 R2 B2 G2 ⊢
  clear hwB f0 q0
  have S := S2
  have R := R2
  have B := B2
  have G := G2
  clear S2 R2 B2 G2
  refine (HC.out _ R).mono ?_
  rintro x' wA ⟨rfl, RA, GA⟩
  replace S := S.kept GA ne3
  replace B := B.kept GA ne1
  replace G := G.trans GA
  have f0 := S.frozen 2
  have q0 : wA.cell? ⟨gC, 2, none⟩ = some (.int .u32 0) := S.cell rfl
  have S2 : Blk (wA.setCell ⟨gC, 2, none⟩ (.int .u32 lab)) gC (ccells id ver lab zeros) := S.set 2 _
  have R2 := RA.off (grown_set1 wA gC 2 (.int .u32 lab)) (by omega)
  have B2 := B.setOther (b := gC) 2 (.int .u32 lab) (by omega)
  have G2 := grown_new G (grown_set1 wA gC 2 (.int .u32 lab)) (by omega)
  clear S B G R RA GA
  go_wp2_with fail
  obtain ⟨wB, hwB⟩ : ∃ z, z = wA.setCell ⟨gC, 2, none⟩ (.int .u32 lab) := ⟨_, rfl⟩
  rw [← hwB] at S2 R2 B2 G2 ⊢
  clear hwB f0 q0
  have S := S2
  have R := R2
  have B := B2
  have G := G2
  clear S2 R2 B2 G2
  refine (HD.out _ R).mono ?_
  rintro x' w5 ⟨rfl, R5, G5⟩
  have S5 := S.kept G5 ne3
  have B5 := B.kept G5 ne1
  replace G5 := G.trans G5
  clear S B G R
  go_wp2_with fail
  go_loopw [5] (fun i wr => ∃ (k a' : Nat) (e' : Int) (f : List V3), k ≤ 8 ∧ i = .int .i64 k ∧ Rr wr base g (l.drop a') e' ∧ Hid (a' ≤ l.length) ∧ Blk wr gC (ccells id ver lab f) ∧ Hid (f.length = 8) ∧ Blk wr r zs ∧ Hid (FR = if e' = 0 then fldsOut true l (fromL x (8 - k) k) f a' e' else (f, a', e')) ∧ w.grownBy wr (some g)) (fun i _ => 8 - (intOf i).toNat)
  case atStart => exact ⟨0, aD, eD, zeros, by omega, rfl, R5, HA4, S5, Lib.hid zeros_len, B5, HFR0, G5⟩
  case round =>
    obtain ⟨k, a', e', f, hk, rfl, R, HAt, S, HFL, B, HQ, G⟩ := hrel
    clear R5 S5 B5 G5
    obtain ⟨y0, y1, y2, y3⟩ := R.facts
    by_cases hlt : k < 8
    · have ki : (k : Int) < 8 := by omega
      have k0 : (0 : Int) ≤ (k : Int) := by omega
      have HXK := Lib.hid (fun wx : World => HX.out (k : Int) wx)
      have HFM := Lib.hid (show fromL x (8 - k) k = (if has x (k : Int) = true then [(k : Int)] else []) ++ fromL x (8 - (k + 1)) (k + 1) by rw [show 8 - k = 8 - (k + 1) + 1 by omega]; rfl)
      obtain ⟨bh, hbh⟩ : ∃ b, b = has x (k : Int) := ⟨_, rfl⟩
      rw [← hbh] at HXK HFM
      clear hbh
      obtain ⟨be, hbe⟩ : ∃ b, b = (e' == 0) := ⟨_, rfl⟩
      have ke : (e' == 0) = be := hbe.symm
      clear hbe
      cases bh
      · -- no such field
        have HN : Hid (FR = if e' = 0 then fldsOut true l (fromL x (8 - (k + 1)) (k + 1)) f a' e' else (f, a', e')) := Lib.hid (by
          have h2 := HQ.out
          rw [HFM.out] at h2
          simpa using h2)
        go_wp2_with fail
        refine (HXK.out _).mono ?_
        rintro x' wn ⟨rfl, rfl⟩
        go_wp2_with fail
        go_roundw
        case rel => exact ⟨k + 1, a', e', f, by omega, by go_num, R, HAt, S, HFL, B, HN, G⟩
        case measure => simp [intOf]; omega
      · cases be
        · -- there is an error
          have HN : Hid (FR = if e' = 0 then fldsOut true l (fromL x (8 - (k + 1)) (k + 1)) f a' e' else (f, a', e')) := Lib.hid (by
            have h2 := HQ.out
            have hne : e' ≠ 0 := by simpa using ke
            rw [if_neg hne] at h2 ⊢
            exact h2)
          go_wp2_with fail
          refine (HXK.out _).mono ?_
          rintro x' wn ⟨rfl, rfl⟩
          go_wp2_with fail
          go_roundw
          case rel => exact ⟨k + 1, a', e', f, by omega, by go_num, R, HAt, S, HFL, B, HN, G⟩
          case measure => simp [intOf]; omega
        · have h0 : e' = 0 := by simpa using ke
          have HV := Lib.hid (rr_value base g l a' e' wr R HAt.out HM.out)
          have HAV := Lib.hid (fldOut_at true l a' e' HAt.out)
          have HQ2 : Hid (FR = if (fldOut true l a' e').2.2 = 0 then fldsOut true l (fromL x (8 - (k + 1)) (k + 1)) (f.set k (fldOut true l a' e').1) (fldOut true l a' e').2.1 (fldOut true l a' e').2.2 else (f.set k (fldOut true l a' e').1, (fldOut true l a' e').2)) := Lib.hid (by
            have h2 := HQ.out
            rw [if_pos h0, HFM.out, if_pos rfl] at h2
            exact h2)
          unfold fldOut at HQ2 HAV
          obtain ⟨r1, hr1⟩ : ∃ r, r = valOut l a' e' := ⟨_, rfl⟩
          rw [← hr1] at HV HQ2 HAV
          clear hr1 h0
          obtain ⟨⟨v0, v1, v2⟩, a1, e1⟩ := r1
          simp only at HV HQ2 HAV
          generalize hE : (if True ∧ v0 = 0 then failOut e1 3 else e1) = E at HQ2
          have HE := Lib.hid hE
          clear hE
          have HF := Lib.hid (fun wx (hx : Rr wx base g (l.drop a1) e1) => rr_fail base g (l.drop a1) e1 3 wx hx)
          have HFS : Hid ((f.set k (v0, v1, v2)).length = 8) := Lib.hid (by rw [List.length_set]; exact HFL.out)
          go_wp2_with fail
          refine (HXK.out _).mono ?_
          rintro x' wn ⟨rfl, rfl⟩
          go_wp2_with fail
          refine HV.out.mono ?_
          rintro x' w1 ⟨rfl, R1, G1⟩
          replace S := S.kept G1 ne3
          replace B := B.kept G1 ne1
          replace G1 := G.trans G1
          have T1 := S.there (3 + k * 3) 3 (by rw [ccells_len _ _ _ HFL.out]; omega)
          have S1 := Blk.putField (pre := [.int .i64 id, .int .i64 ver, .int .u32 lab]) S k (by rw [HFL.out]; omega) (v0, v1, v2)
          have B1 := Blk.setsOther (b := gC) (g := r) (by omega) (vcells (v0, v1, v2)) (3 + k * 3) B
          have RS1 := R1.off (grown_sets4 gC (vcells (v0, v1, v2)) (3 + k * 3) w1) (by omega)
          have GS1 := grown_new G1 (grown_sets4 gC (vcells (v0, v1, v2)) (3 + k * 3) w1) (by omega)
          have O1 : (vcells (v0, v1, v2)).toArray.all (·.oneCell') = true := vcells_all _
          clear S B R G R1 G1 y0 y1 y2 y3
          by_cases c1 : e1 = 0
          · by_cases c0 : v0 = 0
            · have t1 : (e1 == 0) = true := by simpa using c1
              have t0 : (v0 == 0) = true := by simpa using c0
              rw [show E = failOut e1 3 by rw [← HE.out, if_pos ⟨trivial, c0⟩]] at HQ2
              clear c1 c0
              go_wp2_with (first
                | (refine wpList_store_mid rfl 24 (.tmp 38) (.tmp 36) rfl gC (3 + k * 3) (vcells (v0, v1, v2)).toArray rfl rfl T1 info_val O1 ?_
                   simp only [Act.put]
                   generalize hw3 : World.setCells _ gC (3 + k * 3) (vcells (v0, v1, v2)).toArray.toList = w3
                   have S3 : Blk w3 gC ([.int .i64 id, .int .i64 ver, .int .u32 lab] ++ fcells (f.set k (v0, v1, v2))) := hw3 ▸ S1
                   have B3 : Blk w3 r zs := hw3 ▸ B1
                   have R3 : Rr w3 base g (l.drop a1) e1 := hw3 ▸ RS1
                   have G3 : w.grownBy w3 (some g) := hw3 ▸ GS1
                   have q1 : w3.cell? ⟨gC, 3 + k * 3, none⟩ = some (.int .i64 v0) := by
                     have hs := (Blk.field S3 3 k rfl (by rw [List.length_set, HFL.out]; exact hlt)).1
                     simpa using hs
                   obtain ⟨z0, z1, z2, z3⟩ := R3.facts
                   clear hw3 S1 B1 RS1 GS1 T1 O1)
                | fail)
              refine (HF.out _ R3).mono ?_
              rintro x' w4 ⟨rfl, R4, G4⟩
              have S4 := S3.kept G4 ne3
              have B4 := B3.kept G4 ne1
              replace G4 := G3.trans G4
              clear S3 B3 R3 G3 q1 z0 z1 z2 z3
              go_wp2_with fail
              go_roundw
              case rel => exact ⟨k + 1, a1, failOut e1 3, f.set k (v0, v1, v2), by omega, by go_num, R4, HAV, S4, HFS, B4, HQ2, G4⟩
              case measure => simp [intOf]; omega
            · have t1 : (e1 == 0) = true := by simpa using c1
              have t0 : (v0 == 0) = false := by simpa using c0
              rw [show E = e1 by rw [← HE.out, if_neg (fun hh => c0 hh.2)]] at HQ2
              clear c1 c0
              go_wp2_with (first
                | (refine wpList_store_mid rfl 24 (.tmp 38) (.tmp 36) rfl gC (3 + k * 3) (vcells (v0, v1, v2)).toArray rfl rfl T1 info_val O1 ?_
                   simp only [Act.put]
                   generalize hw3 : World.setCells _ gC (3 + k * 3) (vcells (v0, v1, v2)).toArray.toList = w3
                   have S3 : Blk w3 gC ([.int .i64 id, .int .i64 ver, .int .u32 lab] ++ fcells (f.set k (v0, v1, v2))) := hw3 ▸ S1
                   have B3 : Blk w3 r zs := hw3 ▸ B1
                   have R3 : Rr w3 base g (l.drop a1) e1 := hw3 ▸ RS1
                   have G3 : w.grownBy w3 (some g) := hw3 ▸ GS1
                   have q1 : w3.cell? ⟨gC, 3 + k * 3, none⟩ = some (.int .i64 v0) := by
                     have hs := (Blk.field S3 3 k rfl (by rw [List.length_set, HFL.out]; exact hlt)).1
                     simpa using hs
                   obtain ⟨z0, z1, z2, z3⟩ := R3.facts
                   clear hw3 S1 B1 RS1 GS1 T1 O1)
                | fail)
              go_wp2_with fail
              go_roundw
              case rel => exact ⟨k + 1, a1, e1, f.set k (v0, v1, v2), by omega, by go_num, R3, HAV, S3, HFS, B3, HQ2, G3⟩
              case measure => simp [intOf]; omega
          · have t1 : (e1 == 0) = false := by simpa using c1
            have HQ3 : Hid (FR = if e1 = 0 then fldsOut true l (fromL x (8 - (k + 1)) (k + 1)) (f.set k (v0, v1, v2)) a1 e1 else (f.set k (v0, v1, v2), a1, e1)) := Lib.hid (by
              have h2 := HQ2.out
              have hz : E = e1 := by
                rw [← HE.out]
                split
                · unfold failOut; rw [if_neg c1]
                · rfl
              rw [hz] at h2
              exact h2)
            clear c1 HQ2
            go_wp2_with (first
              | (refine wpList_store_mid rfl 24 (.tmp 38) (.tmp 36) rfl gC (3 + k * 3) (vcells (v0, v1, v2)).toArray rfl rfl T1 info_val O1 ?_
                 simp only [Act.put]
                 generalize hw3 : World.setCells _ gC (3 + k * 3) (vcells (v0, v1, v2)).toArray.toList = w3
                 have S3 : Blk w3 gC ([.int .i64 id, .int .i64 ver, .int .u32 lab] ++ fcells (f.set k (v0, v1, v2))) := hw3 ▸ S1
                 have B3 : Blk w3 r zs := hw3 ▸ B1
                 have R3 : Rr w3 base g (l.drop a1) e1 := hw3 ▸ RS1
                 have G3 : w.grownBy w3 (some g) := hw3 ▸ GS1
                 have q1 : w3.cell? ⟨gC, 3 + k * 3, none⟩ = some (.int .i64 v0) := by
                   have hs := (Blk.field S3 3 k rfl (by rw [List.length_set, HFL.out]; exact hlt)).1
                   simpa using hs
                 obtain ⟨z0, z1, z2, z3⟩ := R3.facts
                 clear hw3 S1 B1 RS1 GS1 T1 O1)
              | fail)
            go_wp2_with fail
            go_roundw
            case rel => exact ⟨k + 1, a1, e1, f.set k (v0, v1, v2), by omega, by go_num, R3, HAV, S3, HFS, B3, HQ3, G3⟩
            case measure => simp [intOf]; omega
    · obtain rfl : k = 8 := by omega
      have hq2 : FR = (f, a', e') := by
        have h2 := HQ.out
        rw [show fromL x (8 - 8) 8 = [] from rfl] at h2
        by_cases h0 : e' = 0
        · rw [if_pos h0] at h2; exact h2
        · rw [if_neg h0] at h2; exact h2
      by_cases e0 : e' = 0
      · have ke : (e' != 0) = false := by simpa using e0
        have HTE : Hid (T = ((id, ver, lab, f), a', e')) := Lib.hid (by
          rw [HT.out, hq2]
          simp only
          rw [if_pos e0])
        clear hq2 e0
        have hrr : r = w.heap.size := HRS.out
        obtain ⟨cs, hcs⟩ : ∃ cs, cs = (ccells id ver lab f) := ⟨_, rfl⟩
        have HCL := Lib.hid (show cs.length = 27 by rw [hcs]; exact ccells_len id ver lab HFL.out)
        have O8 : cs.toArray.all (·.oneCell') = true := all_oneCell_toArray (by rw [hcs]; exact ccells_one _ _ _ _)
        rw [← hcs] at S
        have RG := S.range 0 cs (by rw [List.drop_zero, List.take_length])
        have HCS := Lib.hid hcs
        clear hcs
        have T8 := B.there 0 27 (by rw [HZL.out]; omega)
        have FIN := B.wholeT (ds := cs) (by rw [HCL.out, HZL.out])
        have R9 := R.off (grown_sets4 r cs 0 wr) (by omega)
        have G9 := grown_new G (grown_sets4 r cs 0 wr) (by omega)
        clear S R B G hrr
        go_wp2_with (first
          | (refine wpList_load_mid rfl 27 (.tmp 3) rfl gC 0 rfl cs _ RG hu rfl (by rw [HCL.out]; exact info_card) ?_)
          | (refine wpList_store_mid rfl 27 (.tmp 2) (.tmp 60) rfl r 0 cs.toArray rfl rfl (by simpa [HCL.out] using T8) (by simpa [HCL.out] using info_card) O8 ?_)
          | fail)
        exact bodyPost_ret (v := .agg cs.toArray) (tok_results (q := 2) rfl _ _ r cs _ rfl FIN hu rfl (by rw [HCL.out]; exact info_card)) rfl ⟨by rw [HTE.out, HCS.out]; rfl, by rw [HTE.out]; exact R9, G9⟩
      · have ke : (e' != 0) = true := by simpa using e0
        have HTE : Hid (T = ((0, 0, 0, zeros), a', e')) := Lib.hid (by
          rw [HT.out, hq2]
          simp only
          rw [if_neg e0])
        clear hq2 e0
        have hrr : r = w.heap.size := HRS.out
        obtain ⟨cs, hcs⟩ : ∃ cs, cs = zs := ⟨_, rfl⟩
        have HCL := Lib.hid (show cs.length = 27 by rw [hcs]; exact HZL.out)
        have O8 : cs.toArray.all (·.oneCell') = true := by rw [hcs]; exact hone
        have HCS := Lib.hid (hcs.trans HZS.out)
        clear hcs
        have T8 := B.there 0 27 (by rw [HZL.out]; omega)
        have FIN := B.wholeT (ds := cs) (by rw [HCL.out, HZL.out])
        have R9 := R.off (grown_sets4 r cs 0 wr) (by omega)
        have G9 := grown_new G (grown_sets4 r cs 0 wr) (by omega)
        clear S R B G hrr
        go_wp2_with (first
          | (refine wpList_store_mid rfl 27 (.tmp 2) (.tmp 59) rfl r 0 cs.toArray rfl (by rw [HCS.out]; rfl) (by simpa [HCL.out] using T8) (by simpa [HCL.out] using info_card) O8 ?_)
          | fail)
        exact bodyPost_ret (v := .agg cs.toArray) (tok_results (q := 2) rfl _ _ r cs _ rfl FIN hu rfl (by rw [HCL.out]; exact info_card)) rfl ⟨by rw [HTE.out, HCS.out]; rfl, by rw [HTE.out]; exact R9, G9⟩
end Go.Proofs.Yticdpfjajkfheaa
