/- Cards: which values may be: what it returns. -/
import Derived.Test.YtgpbglmlakildaaE6
import Derived.Test.YtgpbglmlakildaaE3
import Derived.Test.YtgpbglmlakildaaE4
namespace Go.Proofs.Ytgpbglmlakildaa
set_option linter.unusedVariables false
open Go Go.RowKit BitM

theorem zv3 : (vcells zv).toArray = #[Value.int .i64 0, .int .i64 0, .string { data := #[] }] := rfl

/-- f[k] of an array of values. -/
theorem run_index_val (f : List V3) (k : Nat) (hk : k < f.length) (hf : f.length = 8) (w : World) :
    (Instr.index 59 (.agg (fcells f).toArray) (.int .i64 (k : Int))).run Try.prog w = .ok (.agg (vcells f[k]).toArray) w := by
  have hsz : ∀ w, (sizeOf 27).run Try.prog w = .ok 3 w := fun w => by kernel_rfl
  have hag : ∀ w, (isAgg 27).run Try.prog w = .ok true w := fun w => by kernel_rfl
  have h8 : (0 : Int) ≤ (k : Int) ∧ (k : Int) < ((8 : Nat) : Int) := by omega
  have hp : (part 27 (fcells f).toArray (k * 3)).run Try.prog w = .ok (.agg (vcells f[k]).toArray) w := by
    simp only [part, Sem.run_bind, hag, Result.andThen_ok, hsz, if_true, Sem.run_pure, fcells_ext f k hk]
  simp only [Instr.index, asIntOf, Sem.run_bind, Sem.run_pure, Result.andThen_ok, run_underlying Try.underlying59, if_pos h8, hsz, Int.toNat_natCast, hp]
theorem exec_index {a : Act} {w : World} {op : Oper} (f : List V3) (k : Nat) (hk : k < f.length) (hf : f.length = 8) (x y : Operand) (ho : op.op = .index 59 x y) (hx : a.eval x = .agg (fcells f).toArray) (hy : a.eval y = .int .i64 (k : Int)) :
    (execOp a.eval op).run Try.prog w = .ok (.value (.agg (vcells f[k]).toArray)) w := by
  unfold execOp
  simp only [ho, hx, hy, Sem.run_bind, run_index_val f k hk hf, Result.andThen_ok, Sem.run_pure]

set_option maxRecDepth 100000 in
set_option maxHeartbeats 1600000 in
theorem values_any (f : List V3) (w : World) (hf : f.length = 8) :
    Calls Try.prog 103 #[.agg (fcells f).toArray] w fun e w' => e = .returned (.bool (vk f 8)) ∧ Below w.heap.size w w' := by
  have HF := Lib.hid hf
  have HFL : Hid ((fcells f).length = 24) := Lib.hid (by rw [fcells_len, hf])
  have B0 := Blk.new w (fcells f) 59
  obtain ⟨fa, hfa⟩ : ∃ fa, fa = (fcells f).toArray := ⟨_, rfl⟩
  rw [← hfa] at B0 ⊢
  have HB := Lib.hid ((Below.refl w.heap.size w).alloc (Nat.le_refl _) (.cells fa 59))
  obtain ⟨R, hR⟩ : ∃ R, R = vk f 8 := ⟨_, rfl⟩
  rw [← hR]
  have HR := Lib.hid hR
  have RG := B0.wholeC
  have hu8 := Try.underlying59
  have hu := Try.underlying27
  have HFA := Lib.hid hfa
  clear hfa hf hR B0
  go_enter Try.func103, Try.ntmps103
  go_wp2_with (first
    | (refine wpList_load_mid rfl 59 (.tmp 1) rfl w.heap.size 0 rfl (fcells f) _ RG hu8 rfl (by rw [HFL.out]; exact info_fields) ?_))
  clear RG
  go_loopw [6] (fun i wr => ∃ k : Nat, k ≤ 8 ∧ i = .int .i64 k ∧ Hid (vk f k = true) ∧ Below w.heap.size w wr) (fun i _ => 8 - (intOf i).toNat)
  case atStart => exact ⟨0, by omega, rfl, Lib.hid rfl, HB.out⟩
  case round =>
    obtain ⟨k, hk, rfl, HK, hbr⟩ := hrel
    clear HB
    by_cases hlt : k < 8
    · have hkf : k < f.length := by rw [HF.out]; exact hlt
      have d8 : (k : Int) < 8 := by omega
      have HS := Lib.hid (vk_succ f k)
      obtain ⟨v, hv⟩ : ∃ v, v = f[k] := ⟨_, rfl⟩
      have hg : f.getD k zv = v := by rw [hv]; simp [List.getD, hkf]
      have HG := Lib.hid hg
      have HV := Lib.hid hv
      obtain ⟨v0, v1, v2⟩ := v
      have HC := Lib.hid (fun wx : World => vcheck_any v0 v1 v2 wx)
      have A1 := Blk.new wr (vcells zv) 27
      have TH := A1.there 0 3 (by simp [vcells])
      have E1 := A1.whole (ds := vcells (v0, v1, v2)) rfl
      have RGV := E1.wholeC
      have EB := below_sets (B := w.heap.size) (b := wr.heap.size) hbr.size (vcells (v0, v1, v2)) 0 (hbr.alloc hbr.size (.cells (vcells zv).toArray 27))
      have hone : ∀ u ∈ vcells (v0, v1, v2), u.oneCell' = true := by intro u hu; simp [vcells] at hu; rcases hu with rfl | rfl | rfl <;> rfl
      rw [zv3] at TH RGV EB
      have HEB := Lib.hid EB
      clear hv hg A1 E1 EB
      cases hc : vchk (v0, v1, v2) with
      | false =>
        rw [hc] at HC
        have HCC := Lib.hid hc
        clear hc
        go_wp2_with (first
          | (refine wpList_exec (op := ⟨some 8, .index 59 _ _, _, _, _, _⟩) (by rfl) (.agg (vcells (v0, v1, v2)).toArray) (by rw [HV.out]; exact exec_index f k hkf HF.out (.tmp 5) (.tmp 6) rfl rfl rfl) ?_)
          | (refine wpList_store_mid rfl 27 (.tmp 4) (.tmp 8) rfl wr.heap.size 0 (vcells (v0, v1, v2)).toArray rfl rfl (by simpa [vcells] using TH) (by simpa [vcells] using info_val) (all_oneCell_toArray hone) ?_)
          | (refine wpList_load_mid rfl 27 (.tmp 4) rfl wr.heap.size 0 rfl (vcells (v0, v1, v2)) _ RGV hu rfl info_val ?_))
        refine (HC.out _).mono ?_
        rintro e w1 ⟨rfl, hb⟩
        have hbw := HEB.out.trans (hb.mono HEB.out.size)
        clear TH RGV HEB hb
        go_wp2_with fail
        go_ret
        refine ⟨?_, hbw⟩
        have hfin : R = false := by rw [HR.out]; exact vk_mono f (j := k + 1) (by omega) (by rw [HS.out, HG.out, HCC.out]; simp)
        rw [hfin]
        rfl
      | true =>
        rw [hc] at HC
        have HCC := Lib.hid hc
        clear hc
        go_wp2_with (first
          | (refine wpList_exec (op := ⟨some 8, .index 59 _ _, _, _, _, _⟩) (by rfl) (.agg (vcells (v0, v1, v2)).toArray) (by rw [HV.out]; exact exec_index f k hkf HF.out (.tmp 5) (.tmp 6) rfl rfl rfl) ?_)
          | (refine wpList_store_mid rfl 27 (.tmp 4) (.tmp 8) rfl wr.heap.size 0 (vcells (v0, v1, v2)).toArray rfl rfl (by simpa [vcells] using TH) (by simpa [vcells] using info_val) (all_oneCell_toArray hone) ?_)
          | (refine wpList_load_mid rfl 27 (.tmp 4) rfl wr.heap.size 0 rfl (vcells (v0, v1, v2)) _ RGV hu rfl info_val ?_))
        refine (HC.out _).mono ?_
        rintro e w1 ⟨rfl, hb⟩
        have hbw := HEB.out.trans (hb.mono HEB.out.size)
        clear TH RGV HEB hb
        go_wp2_with fail
        go_roundw
        case rel => exact ⟨k + 1, by omega, by go_num, Lib.hid (by rw [HS.out, HK.out, HG.out, HCC.out]; rfl), hbw⟩
        case measure => simp [intOf]; omega
    · obtain rfl : k = 8 := by omega
      go_wp2_with fail
      go_ret
      exact ⟨by rw [HR.out, HK.out]; rfl, hbr⟩
end Go.Proofs.Ytgpbglmlakildaa

/- Cards: which cards may be: what it returns. -/
namespace Go.Proofs.Ytgpbglmlakildaa
set_option linter.unusedVariables false
open Go Go.RowKit BitM

end Go.Proofs.Ytgpbglmlakildaa

/- Cards: what is wrong with a patch: what it returns. -/
namespace Go.Proofs.Ytgpbglmlakildaa
set_option linter.unusedVariables false
open Go Go.RowKit BitM

theorem vchk_none {v : V3} (h : vchk v = true) (h0 : v.1 = 0) : v = zv := by
  obtain ⟨k, n, s⟩ := v
  simp only at h0
  subst h0
  rw [vchk_0, decide_eq_true_eq] at h
  obtain ⟨rfl, hs⟩ := h
  rw [nil_str_iff] at hs
  subst hs
  rfl
theorem vk_iff (f : List V3) (k : Nat) : vk f k = true ↔ ∀ i, i < k → vchk (f.getD i zv) = true := by
  unfold vk
  simp only [List.all_eq_true, List.mem_range]
theorem fok_iff (x : BitVec 32) (f : List V3) (k : Nat) : fok x f k = true ↔ ∀ i, i < k → vchk (f.getD i zv) = true ∧ ((f.getD i zv).1 = 0 ∨ has x (i : Int) = true) := by
  unfold fok
  simp only [List.all_eq_true, List.mem_range, Bool.and_eq_true, Bool.or_eq_true, decide_eq_true_eq]
theorem zeros_getD (i : Nat) : zeros.getD i zv = zv := by
  unfold zeros
  rw [List.getD_eq_getElem?_getD, List.getElem?_replicate]
  split <;> rfl
theorem mix_same (x : BitVec 32) (f : List V3) (hf : f.length = 8) : mix (fun i => has x (i : Int)) f zeros = f ↔ ∀ i : Nat, i < 8 → has x (i : Int) = true ∨ f.getD i zv = zv := by
  constructor
  · intro h i hi
    have h1 := mix_getD (fun i => has x (i : Int)) f zeros i hi
    rw [h] at h1
    cases hx : has x (i : Int)
    · right
      rw [h1, hx]
      exact zeros_getD i
    · exact .inl rfl
  · intro h
    apply List.ext_getElem
    · rw [mix_len, hf]
    · intro i h1 h2
      have hi : i < 8 := by rw [hf] at h2; exact h2
      have e : f.getD i zv = f[i] := by simp [List.getD, h2]
      rw [mix_get]
      rcases h i hi with hx | hz
      · rw [hx, ← e]; rfl
      · cases hx : has x (i : Int)
        · rw [← e, hz]; exact zeros_getD i
        · rw [← e]; rfl
theorem fok_eq (x : BitVec 32) (f : List V3) (hf : f.length = 8) : fok x f 8 = (decide (mix (fun i => has x (i : Int)) f zeros = f) && vk (mix (fun i => has x (i : Int)) f zeros) 8) := by
  rw [Bool.eq_iff_iff, Bool.and_eq_true, decide_eq_true_eq]
  constructor
  · intro h
    rw [fok_iff] at h
    have hm : mix (fun i => has x (i : Int)) f zeros = f := (mix_same x f hf).2 (fun i hi => by
      rcases (h i hi).2 with h0 | hx
      · exact .inr (vchk_none (h i hi).1 h0)
      · exact .inl hx)
    refine ⟨hm, ?_⟩
    rw [hm, vk_iff]
    exact fun i hi => (h i hi).1
  · rintro ⟨hm, hv⟩
    rw [hm, vk_iff] at hv
    rw [fok_iff]
    intro i hi
    refine ⟨hv i hi, ?_⟩
    rcases (mix_same x f hf).1 hm i hi with hx | hz
    · exact .inr hx
    · exact .inl (by rw [hz]; rfl)
theorem guard_arr : Try.prog.eqGuardType Try.prog.depth 59 = false := by kernel_rfl

set_option maxRecDepth 100000 in
set_option maxHeartbeats 3200000 in
theorem pcheck_any (x : BitVec 32) (lab : Int) (f : List V3) (w : World) (hf : f.length = 8) :
    Calls Try.prog 76 #[.agg (pcells (x.toNat : Int) lab f).toArray] w fun e w' => e = .returned (.int .i64 (pchk x lab f)) ∧ Below w.heap.size w w' := by
  have HS := Lib.hid (fun wx : World => shown_any lab x f wx hf)
  have HM := Lib.hid (fun wx : World => mcheck_any x wx)
  have HFL : Hid ((fcells f).length = 24) := Lib.hid (by rw [fcells_len, hf])
  obtain ⟨l, hl⟩ : ∃ l : Int, l = (if has x 8 then lab else 0) := ⟨_, rfl⟩
  obtain ⟨sf, hsf⟩ : ∃ sf, sf = mix (fun i => has x (i : Int)) f zeros := ⟨_, rfl⟩
  have hs8 : sf.length = 8 := by rw [hsf, mix_len]
  have HSF : Hid ((fcells sf).length = 24) := Lib.hid (by rw [fcells_len, hs8])
  have HV := Lib.hid (fun wx : World => values_any sf wx hs8)
  have HE := Lib.hid (fun wx : World => eq_fields 9997 sf f hs8 hf wx)
  have hfk := fok_eq x f hf
  rw [← hl, ← hsf] at HS
  rw [← hsf] at hfk
  have hone : ∀ v ∈ fcells sf, v.oneCell' = true := fcells_one sf
  obtain ⟨R, hR⟩ : ∃ R, R = pchk x lab f := ⟨_, rfl⟩
  rw [← hR]
  have HR := Lib.hid hR
  have HFK := Lib.hid hfk
  have HLL := Lib.hid hl
  have HZ8 : Hid ((fcells zeros).toArray = #[Value.int .i64 0, .int .i64 0, .string { data := #[] }, .int .i64 0, .int .i64 0, .string { data := #[] }, .int .i64 0, .int .i64 0, .string { data := #[] }, .int .i64 0, .int .i64 0, .string { data := #[] }, .int .i64 0, .int .i64 0, .string { data := #[] }, .int .i64 0, .int .i64 0, .string { data := #[] }, .int .i64 0, .int .i64 0, .string { data := #[] }, .int .i64 0, .int .i64 0, .string { data := #[] }]) := Lib.hid rfl
  have B0 := Blk.new w (pcells (x.toNat : Int) lab f) 61
  obtain ⟨pa, hpa⟩ : ∃ pa, pa = (pcells (x.toNat : Int) lab f).toArray := ⟨_, rfl⟩
  rw [← hpa] at B0 ⊢
  have hw0 := (Below.refl w.heap.size w).alloc (Nat.le_refl _) (.cells pa 61)
  have hsz : (w.alloc (.cells pa 61)).heap.size = w.heap.size + 1 := by simp
  generalize hW : w.alloc (.cells pa 61) = W at *
  have HW := Lib.hid hW
  have HB := Lib.hid hw0
  have HSZ := Lib.hid hsz
  clear hl hsf hs8 hfk hR hpa hw0 hf hsz hW
  obtain ⟨p0, p1⟩ := B0.patch
  have RF := B0.fieldsP
  have hu8 := Try.underlying59
  have HC0 := Lib.hid B0
  have HP1 := Lib.hid p1
  have HRF := Lib.hid RF
  clear B0 p1 RF
  rw [← HW.out] at p0
  by_cases h2 : x.toNat = 0
  · have b2 : ((x.toNat : Int) == 0) = true := by rw [h2]; rfl
    have HRR : Hid (R = 11) := Lib.hid (by rw [HR.out]; unfold pchk; rw [if_pos (.inr h2)])
    clear h2
    go_enter Try.func76, Try.ntmps76
    go_wp2_with fail
    go_ret
    exact ⟨by rw [HRR.out]; rfl, by rw [HW.out]; exact HB.out⟩
  · have b2 : ((x.toNat : Int) == 0) = false := by rw [beq_eq_false_iff_ne]; omega
    by_cases h1 : x.toNat ≤ 511
    · rw [decide_eq_true h1] at HM
      have hn : ¬ (511 < x.toNat ∨ x.toNat = 0) := by omega
      have HRN : Hid (R = if 65536 ≤ lab ∨ (lab ≠ 0 ∧ has x 8 = false) then 1 else if fok x f 8 then 0 else 1) := Lib.hid (by rw [HR.out]; unfold pchk; rw [if_neg hn])
      clear h1 h2 hn
      go_enter Try.func76, Try.ntmps76
      go_wp2_with fail
      rw [HW.out]
      clear p0
      obtain ⟨p0, p1⟩ := HC0.out.patch
      refine (HM.out _).mono ?_
      rintro e w' ⟨rfl, rfl⟩
      have RF := HRF.out
      go_wp2_with (first
        | (refine wpList_load_mid rfl 59 (.tmp 17) rfl w.heap.size 2 rfl (fcells f) _ RF hu8 rfl (by rw [HFL.out]; exact info_fields) ?_))
      clear p0 p1 RF
      refine (HS.out _).mono ?_
      rintro e w1 ⟨rfl, hb⟩
      have hb1 := HB.out.trans (hb.mono HB.out.size)
      have C0 := (HC0.out.later hb).alloc (.cells (fcells zeros).toArray 59)
      have hlt : w.heap.size < w1.heap.size := (HC0.out.later hb).lt
      have A5 := Blk.new w1 (fcells zeros) 59
      have TH := A5.there 0 24 (by rw [fcells_len, zeros_len]; omega)
      have E5 := A5.whole (ds := fcells sf) (by rw [HSF.out, fcells_len, zeros_len])
      have E0 := Blk.setsOther (b := w1.heap.size) (g := w.heap.size) (by omega) (fcells sf) 0 C0
      have EB := below_sets (B := w.heap.size) (b := w1.heap.size) (by omega) (fcells sf) 0 (hb1.alloc (by omega) (.cells (fcells zeros).toArray 59))
      have RS := E5.wholeC
      have RF := E0.fieldsP
      obtain ⟨p0, p1⟩ := E0.patch
      clear p0
      rw [HZ8.out] at TH RS RF p1 EB
      have HEB := Lib.hid EB
      clear hb hb1 C0 A5 E5 E0 EB HM HS HB HC0 HP1 HRF HW HSZ
      cases hll : decide (l = lab) with
      | false =>
        have bl : (l != lab) = true := by simpa using hll
        have HRR : Hid (R = 1) := Lib.hid (by
          rw [HRN.out, if_pos]
          have h : ¬ l = lab := by simpa using hll
          rw [HLL.out] at h
          right
          cases h8 : has x 8
          · rw [h8] at h
            exact ⟨fun e => h (by rw [e]; rfl), rfl⟩
          · rw [h8] at h
            exact absurd rfl h)
        clear hll
        go_wp2_with (first
          | (refine wpList_store_mid rfl 59 (.tmp 4) (.tmp 23) rfl w1.heap.size 0 (fcells sf).toArray rfl rfl (by simpa [HSF.out] using TH) (by simpa [HSF.out] using info_fields) (all_oneCell_toArray hone) ?_))
        go_ret
        exact ⟨by rw [HRR.out]; rfl, HEB.out⟩
      | true =>
        have bl : (l != lab) = false := by simpa using hll
        have hle : l = lab := by simpa using hll
        have HN8 : Hid (¬ (lab ≠ 0 ∧ has x 8 = false)) := Lib.hid (by
          rintro ⟨h1, h2⟩
          rw [HLL.out, h2] at hle
          exact h1 hle.symm)
        have HLE := Lib.hid hle
        clear hll hle
        cases hs : decide (sf = f) with
        | false =>
          have HRR : Hid (R = 1) := Lib.hid (by rw [HRN.out, HFK.out, hs]; simp)
          rw [hs] at HE
          clear hs
          go_wp2_with (first
            | (refine wpList_store_mid rfl 59 (.tmp 4) (.tmp 23) rfl w1.heap.size 0 (fcells sf).toArray rfl rfl (by simpa [HSF.out] using TH) (by simpa [HSF.out] using info_fields) (all_oneCell_toArray hone) ?_)
            | (refine wpList_load_g (by rfl) 59 (.tmp 4) rfl w1.heap.size 0 rfl (fcells sf) _ RS hu8 rfl (by rw [HSF.out]; exact info_fields) ?_)
            | (refine wpList_load_g (by rfl) 59 (.tmp 30) rfl w.heap.size 2 rfl (fcells f) _ RF hu8 rfl (by rw [HFL.out]; exact info_fields) ?_)
            | (refine wpList_exec (by rfl) (.bool true) (exec_neq 59 _ (.tmp 29) (.tmp 31) rfl _ _ rfl rfl guard_arr false (HE.out _)) ?_))
          go_ret
          exact ⟨by rw [HRR.out]; rfl, HEB.out⟩
        | true =>
          rw [hs] at HE
          have HSS := Lib.hid hs
          clear hs
          by_cases hg : 65535 < l
          · have dg : decide (65535 < l) = true := by simpa using hg
            have HRR : Hid (R = 1) := Lib.hid (by rw [HRN.out, if_pos]; left; rw [← HLE.out]; omega)
            clear hg
            go_wp2_with (first
              | (refine wpList_store_mid rfl 59 (.tmp 4) (.tmp 23) rfl w1.heap.size 0 (fcells sf).toArray rfl rfl (by simpa [HSF.out] using TH) (by simpa [HSF.out] using info_fields) (all_oneCell_toArray hone) ?_)
              | (refine wpList_load_g (by rfl) 59 (.tmp 4) rfl w1.heap.size 0 rfl (fcells sf) _ RS hu8 rfl (by rw [HSF.out]; exact info_fields) ?_)
              | (refine wpList_load_g (by rfl) 59 (.tmp 30) rfl w.heap.size 2 rfl (fcells f) _ RF hu8 rfl (by rw [HFL.out]; exact info_fields) ?_)
              | (refine wpList_exec (by rfl) (.bool false) (exec_neq 59 _ (.tmp 29) (.tmp 31) rfl _ _ rfl rfl guard_arr true (HE.out _)) ?_))
            go_ret
            exact ⟨by rw [HRR.out]; rfl, HEB.out⟩
          · have dg : decide (65535 < l) = false := by simpa using hg
            have HRV : Hid (R = if vk sf 8 then 0 else 1) := Lib.hid (by
              rw [HRN.out, if_neg (by rw [← HLE.out]; rintro (h | h); exact hg (by omega); exact HN8.out (by rw [← HLE.out]; exact h)), HFK.out, HSS.out, Bool.true_and])
            clear hg
            cases hv : vk sf 8 with
            | false =>
              rw [hv] at HV HRV
              have HRR : Hid (R = 1) := Lib.hid (by rw [HRV.out]; rfl)
              clear hv
              go_wp2_with (first
                | (refine wpList_store_mid rfl 59 (.tmp 4) (.tmp 23) rfl w1.heap.size 0 (fcells sf).toArray rfl rfl (by simpa [HSF.out] using TH) (by simpa [HSF.out] using info_fields) (all_oneCell_toArray hone) ?_)
                | (refine wpList_load_g (by rfl) 59 (.tmp 4) rfl w1.heap.size 0 rfl (fcells sf) _ RS hu8 rfl (by rw [HSF.out]; exact info_fields) ?_)
                | (refine wpList_load_g (by rfl) 59 (.tmp 30) rfl w.heap.size 2 rfl (fcells f) _ RF hu8 rfl (by rw [HFL.out]; exact info_fields) ?_)
                | (refine wpList_exec (by rfl) (.bool false) (exec_neq 59 _ (.tmp 29) (.tmp 31) rfl _ _ rfl rfl guard_arr true (HE.out _)) ?_))
              refine (HV.out _).mono ?_
              rintro e w2 ⟨rfl, hb⟩
              have hb2 := HEB.out.trans (hb.mono HEB.out.size)
              clear TH RS RF p1 HEB hb
              go_wp2_with fail
              go_ret
              exact ⟨by rw [HRR.out]; rfl, hb2⟩
            | true =>
              rw [hv] at HV HRV
              have HRR : Hid (R = 0) := Lib.hid (by rw [HRV.out]; rfl)
              clear hv
              go_wp2_with (first
                | (refine wpList_store_mid rfl 59 (.tmp 4) (.tmp 23) rfl w1.heap.size 0 (fcells sf).toArray rfl rfl (by simpa [HSF.out] using TH) (by simpa [HSF.out] using info_fields) (all_oneCell_toArray hone) ?_)
                | (refine wpList_load_g (by rfl) 59 (.tmp 4) rfl w1.heap.size 0 rfl (fcells sf) _ RS hu8 rfl (by rw [HSF.out]; exact info_fields) ?_)
                | (refine wpList_load_g (by rfl) 59 (.tmp 30) rfl w.heap.size 2 rfl (fcells f) _ RF hu8 rfl (by rw [HFL.out]; exact info_fields) ?_)
                | (refine wpList_exec (by rfl) (.bool false) (exec_neq 59 _ (.tmp 29) (.tmp 31) rfl _ _ rfl rfl guard_arr true (HE.out _)) ?_))
              refine (HV.out _).mono ?_
              rintro e w2 ⟨rfl, hb⟩
              have hb2 := HEB.out.trans (hb.mono HEB.out.size)
              clear TH RS RF p1 HEB hb
              go_wp2_with fail
              go_ret
              exact ⟨by rw [HRR.out]; rfl, hb2⟩
    · rw [decide_eq_false h1] at HM
      have HRR : Hid (R = 11) := Lib.hid (by rw [HR.out]; unfold pchk; rw [if_pos (.inl (by omega))])
      clear h1 h2
      go_enter Try.func76, Try.ntmps76
      go_wp2_with fail
      rw [HW.out]
      refine (HM.out _).mono ?_
      rintro e w' ⟨rfl, rfl⟩
      clear p0
      go_wp2_with fail
      go_ret
      exact ⟨by rw [HRR.out]; rfl, HB.out⟩
end Go.Proofs.Ytgpbglmlakildaa

/- Cards and patches as bytes: the mathematics. -/
namespace Go.Proofs.Ytgpbglmlakildaa
set_option linter.unusedVariables false
open Go Go.RowKit BitM OctM

/-- The fields below k that have a value. -/
def kl (f : List V3) (k : Nat) : List Int := ((List.range k).filter fun i => decide ((f.getD i zv).1 ≠ 0)).map fun i : Nat => (i : Int)
theorem kl_succ (f : List V3) (k : Nat) : kl f (k + 1) = kl f k ++ if (f.getD k zv).1 ≠ 0 then [(k : Int)] else [] := by
  unfold kl
  rw [List.range_succ, List.filter_append, List.map_append]
  by_cases h : (f.getD k zv).1 = 0
  · rw [List.filter_cons_of_neg (by rw [decide_eq_false (fun hn => hn h)]; exact Bool.false_ne_true), if_neg (fun hn => hn h)]; rfl
  · rw [List.filter_cons_of_pos (by rw [decide_eq_true h]), if_pos h]; rfl
theorem mem_kl (f : List V3) (k : Nat) (n : Int) : n ∈ kl f k ↔ ∃ i : Nat, i < k ∧ n = (i : Int) ∧ (f.getD i zv).1 ≠ 0 := by
  unfold kl
  simp only [List.mem_map, List.mem_filter, List.mem_range, decide_eq_true_eq]
  constructor
  · rintro ⟨i, ⟨h1, h2⟩, rfl⟩; exact ⟨i, h1, rfl, h2⟩
  · rintro ⟨i, h1, rfl, h2⟩; exact ⟨i, ⟨h1, h2⟩, rfl⟩
theorem zero_val {v : V3} (h : vchk v = true) : (zv ≠ v) ↔ v.1 ≠ 0 := by
  obtain ⟨k, n, s⟩ := v
  constructor
  · intro hne h0
    apply hne
    simp only at h0
    subst h0
    rw [vchk_0] at h
    obtain ⟨h1, h2⟩ := of_decide_eq_true h
    subst h1
    have : s = ⟨#[]⟩ := by
      apply ByteArray.ext
      apply Array.ext'
      rw [ByteArray.toList_eq] at h2
      exact h2
    rw [this]; rfl
  · intro hne e
    apply hne
    rw [← e]; rfl
theorem unl_kl (f : List V3) (hv : vk f 8 = true) : unl zeros f 8 = kl f 8 := by
  unfold unl kl
  congr 1
  refine List.filter_congr fun i hi => ?_
  have h8 : i < 8 := by simpa using hi
  have hz : zeros.getD i zv = zv := by
    unfold zeros
    rw [List.getD_eq_getElem?_getD, List.getElem?_replicate]
    split <;> rfl
  have hvi : vchk (f.getD i zv) = true := by
    unfold vk at hv
    exact List.all_eq_true.1 hv i hi
  rw [hz]
  exact decide_eq_decide.2 (zero_val hvi)
theorem klm (f : List V3) : mkm false (kl f 8) = ofl (kl f 8) := by
  apply BitM.ext
  intro n
  rw [has_mkm, has_ofl]
  simp only [Bool.false_and, Bool.or_false]
  by_cases hm : n ∈ kl f 8
  · obtain ⟨i, h1, rfl, _⟩ := (mem_kl f 8 n).1 hm
    rw [decide_eq_true (show 0 ≤ (i : Int) ∧ (i : Int) < 8 by omega), decide_eq_true (show 0 ≤ (i : Int) ∧ (i : Int) < 32 by omega)]
  · rw [decide_eq_false hm]; simp
theorem dmask_kl (lab : Int) (f : List V3) (hv : vk f 8 = true) : dmask lab zeros lab f = ofl (kl f 8) := by
  unfold dmask
  rw [unl_kl f hv, decide_eq_false (by simp), klm]
theorem lst_end {x : BitVec 32} {j : Nat} (h : ∀ i : Nat, j ≤ i → has x (i : Int) = false) : ∀ k, j ≤ k → lst x k = lst x j
  | 0, hk => by rw [show j = 0 by omega]
  | k + 1, hk => by
    by_cases e : j = k + 1
    · rw [e]
    · rw [lst_succ, h k (by omega), lst_end h k (by omega)]; simp
theorem flds_kl (f : List V3) : flds (ofl (kl f 8)) = kl f 8 := by
  have hh : ∀ n : Int, has (ofl (kl f 8) &&& 255#32) n = (decide (0 ≤ n ∧ n < 8) && decide (n ∈ kl f 8)) := by
    intro n
    rw [has_and_255, has_ofl]
    by_cases h1 : 0 ≤ n ∧ n < 8
    · rw [decide_eq_true h1, decide_eq_true (show 0 ≤ n ∧ n < 32 by omega), decide_eq_true h1.2]; simp
    · rw [decide_eq_false h1]
      by_cases hm : n ∈ kl f 8
      · obtain ⟨i, h2, rfl, _⟩ := (mem_kl f 8 n).1 hm
        exact absurd ⟨by omega, by omega⟩ h1
      · rw [decide_eq_false hm]; simp
  unfold flds
  rw [lst_end (j := 8) (fun i hi => by rw [hh, decide_eq_false (by omega), Bool.false_and]) 32 (by omega)]
  unfold lst
  conv => rhs; unfold kl
  congr 1
  refine List.filter_congr fun i hi => ?_
  have h8 : i < 8 := by simpa using hi
  rw [hh, decide_eq_true (show 0 ≤ (i : Int) ∧ (i : Int) < 8 by omega), Bool.true_and]
  refine decide_eq_decide.2 ?_
  rw [mem_kl]
  constructor
  · rintro ⟨j, _, h2, h3⟩
    obtain rfl : i = j := by omega
    exact h3
  · intro h; exact ⟨i, h8, rfl, h⟩
/-- A card's bytes. -/
def cbs (id ver lab : Int) (f : List V3) : List UInt8 := if ccheck id ver lab f = false then [] else (((enc (held id) ++ enc (held ver)) ++ enc (held lab)) ++ enc (held ((ofl (kl f 8)).toNat : Int))) ++ fbs (kl f 8) f
/-- A patch's bytes. -/
def pbs (x : BitVec 32) (lab : Int) (f : List V3) : List UInt8 := if pchk x lab f ≠ 0 then [] else (enc (held (x.toNat : Int)) ++ (if has x 8 = true then enc (held lab) else [])) ++ fbs (flds x) f
theorem fbs_len (L : List Int) (f : List V3) : (fbs L f).length ≤ 40 * L.length := by
  induction L with
  | nil => simp [fbs]
  | cons i L ih =>
    have := vbs_len (f.getD i.toNat zv)
    simp only [fbs, List.flatMap_cons, List.length_append, List.length_cons] at *
    omega
theorem kl_len (f : List V3) (k : Nat) : (kl f k).length ≤ k := by
  unfold kl
  rw [List.length_map]
  have := List.length_filter_le (fun i => decide ((f.getD i zv).1 ≠ 0)) (List.range k)
  simpa using this
theorem cbs_len (id ver lab : Int) (f : List V3) : (cbs id ver lab f).length ≤ 400 := by
  unfold cbs
  split
  · simp
  · simp only [List.length_append]
    have h1 := held_len id
    have h2 := held_len ver
    have h3 := held_len lab
    have h4 := held_len ((ofl (kl f 8)).toNat : Int)
    have h5 := fbs_len (kl f 8) f
    have h6 := kl_len f 8
    omega
theorem zclab (lab : Int) : (ccells 0 0 lab zeros).toArray = #[Value.int .i64 0, .int .i64 0, .int .u32 lab, .int .i64 0, .int .i64 0, .string { data := #[] }, .int .i64 0, .int .i64 0, .string { data := #[] }, .int .i64 0, .int .i64 0, .string { data := #[] }, .int .i64 0, .int .i64 0, .string { data := #[] }, .int .i64 0, .int .i64 0, .string { data := #[] }, .int .i64 0, .int .i64 0, .string { data := #[] }, .int .i64 0, .int .i64 0, .string { data := #[] }, .int .i64 0, .int .i64 0, .string { data := #[] }] := rfl

theorem flat2 {w : World} {A B : Option Addr} {n c m d : Nat} {l r : List UInt8} (T : TypeId) (hn : l.length = n) (hm : r.length = m) (hs : Sees w w.heap.size A (bvs l)) (ht : Sees w w.heap.size B (bvs r)) :
    FlatAt (w.alloc (.cells #[.slice A n c, .slice B m d] T)) w.heap.size [l, r] := fun k hk => by
  have hB := Blk.new w [.slice A n c, .slice B m d] T
  match k, hk with
  | 0, _ => exact ⟨A, c, by subst hn; exact hB.cell (j := 0) rfl, (hs.alloc (Nat.le_refl _) _).more (by simp)⟩
  | 1, _ => exact ⟨B, d, by subst hm; exact hB.cell (j := 1) rfl, (ht.alloc (Nat.le_refl _) _).more (by simp)⟩
/-- A slot that holds a slice of these bytes. -/
def relSee (n : Nat) (l : List UInt8) : Rel where
  rel v w := ∃ A c, v = .slice A n c ∧ Sees w w.heap.size A (bvs l)
  mono := fun v w w' h ⟨A, c, e, hs⟩ => ⟨A, c, e, (hs.below h).more h.size⟩
  real := fun w ⟨A, c, e, _⟩ => by cases e
theorem gives_see {w : World} {xs : List UInt8} {n : Nat} (hn : xs.length = n) {e : Ending} {w' : World} (h : GivesBytes w xs e w') : ∃ v, e = .returned v ∧ Below w.heap.size w w' ∧ (relSee n xs).rel v w' := by
  obtain ⟨A, c, rfl, ho, hb⟩ := h
  subst hn
  exact ⟨_, rfl, hb, A, c, rfl, ho.sees⟩

end Go.Proofs.Ytgpbglmlakildaa

/- Cards as bytes, by the document: what its PutCard returns. -/
namespace Go.Proofs.Ytgpbglmlakildaa
set_option linter.unusedVariables false
open Go Go.RowKit BitM OctM

theorem fbs_kl_succ (f : List V3) (k : Nat) (h : (f.getD k zv).1 ≠ 0) : fbs (kl f (k + 1)) f = fbs (kl f k) f ++ vbs (f.getD k zv) := by
  rw [kl_succ, if_pos h, fbs_snoc]; simp
theorem kl_skip (f : List V3) (k : Nat) (h : (f.getD k zv).1 = 0) : kl f (k + 1) = kl f k := by
  rw [kl_succ, if_neg (fun hn => hn h)]; simp
theorem ofl_kl_succ (f : List V3) (k : Nat) (h : (f.getD k zv).1 ≠ 0) : ofl (kl f (k + 1)) = put (ofl (kl f k)) (k : Int) := by
  rw [kl_succ, if_pos h, ofl_snoc]

end Go.Proofs.Ytgpbglmlakildaa

/- Patches as bytes: what PutPatch returns, the program's and the document's. -/
namespace Go.Proofs.Ytgpbglmlakildaa
set_option linter.unusedVariables false
open Go Go.RowKit BitM OctM

theorem flds_lst (x : BitVec 32) : flds x = lst x 8 := by
  have hh : ∀ n : Nat, has (x &&& 255#32) (n : Int) = (has x n && decide (n < 8)) := fun n => by
    rw [has_and_255 x n]
    first | rfl | (congr 1; simp; done) | (congr 1; simp; omega)
  unfold flds
  rw [lst_end (j := 8) (fun i hi => by rw [hh, decide_eq_false (by omega), Bool.and_false]) 32 (by omega)]
  unfold lst
  congr 1
  refine List.filter_congr fun i hi => ?_
  have h8 : i < 8 := by simpa using hi
  rw [hh, decide_eq_true h8, Bool.and_true]

set_option maxRecDepth 100000 in
set_option maxHeartbeats 3200000 in
theorem putpatch_any (x : BitVec 32) (lab : Int) (f : List V3) (A : Option Addr) (n c : Nat) (l : List UInt8) (w : World) (hf : f.length = 8) (hlb : 0 ≤ lab) (hn : l.length = n) (hs : Sees w w.heap.size A (bvs l)) (hm : n ≤ 10000) :
    Calls Try.prog 81 #[.slice A n c, .agg (pcells (x.toNat : Int) lab f).toArray] w (GivesBytes w (l ++ pbs x lab f)) := by
  have HCK := Lib.hid (fun wx : World => pcheck_any x lab f wx hf)
  have HCL := Lib.hid (fun (wx : World) (hb : Below w.heap.size w wx) => clone_any A n c l wx hn ((hs.below hb).more hb.size) (by omega))
  have HPLen : Hid ((pcells (x.toNat : Int) lab f).length = 26) := Lib.hid (pcells_len _ _ hf)
  have B0 := Blk.new w (pcells (x.toNat : Int) lab f) 61
  obtain ⟨pc, hpc⟩ : ∃ pc, pc = pcells (x.toNat : Int) lab f := ⟨_, rfl⟩
  rw [← hpc] at HCK B0 HPLen ⊢
  have hb0 := (Below.refl w.heap.size w).alloc (Nat.le_refl _) (.cells pc.toArray 61)
  have RG := B0.wholeC
  have hu := Try.underlying61
  have HFL : Hid ((fcells f).length = 24) := Lib.hid (by rw [fcells_len, hf])
  have hu8 := Try.underlying59
  obtain ⟨er, her⟩ : ∃ b, b = pchk x lab f := ⟨_, rfl⟩
  rw [← her] at HCK
  by_cases h0 : er = 0
  · have hok : pchk x lab f = 0 := her.symm.trans h0
    have hlab : lab < 65536 := by
      unfold pchk at hok
      split at hok
      · cases hok
      · split at hok
        · cases hok
        · omega
    have HB : Hid (l ++ pbs x lab f = l ++ ((enc (held (x.toNat : Int)) ++ (if has x 8 = true then enc (held lab) else [])) ++ fbs (flds x) f)) := Lib.hid (by unfold pbs; rw [if_neg (by rw [hok]; simp)])
    obtain ⟨R, hR⟩ : ∃ R, R = l ++ pbs x lab f := ⟨_, rfl⟩
    rw [← hR] at HB ⊢
    have HX := Lib.hid (fun (A' : Option Addr) (n' c' : Nat) (l' : List UInt8) (wx : World) (hn' : l'.length = n') (hs' : Sees wx wx.heap.size A' (bvs l')) (hm' : n' ≤ 10000) => putvals_any x f A' n' c' l' wx hf hn' hs' hm')
    have HLB := Lib.hid (fun wx : World => labels_any x wx)
    have hx4 := x.isLt
    have hfl := flds_len x
    have hf5 := fbs_len (flds x) f
    obtain ⟨X, hX⟩ : ∃ X, X = x.toNat := ⟨_, rfl⟩
    rw [← hX] at HX HB hx4 HLB hpc
    have HPC := Lib.hid hpc
    obtain ⟨b8, hb8⟩ : ∃ b, b = has x 8 := ⟨_, rfl⟩
    rw [← hb8] at HLB HB
    have be : (er != 0) = false := by simp [h0]
    obtain ⟨r1, hr1⟩ : ∃ r, r = enc (held (X : Int)) := ⟨_, rfl⟩
    obtain ⟨r2, hr2⟩ : ∃ r, r = r1 ++ (if b8 = true then enc (held lab) else []) := ⟨_, rfl⟩
    obtain ⟨r5, hr5⟩ : ∃ r, r = r2 ++ fbs (flds x) f := ⟨_, rfl⟩
    have e1 : r1.length ≤ 6 := by rw [hr1]; exact held_len _
    have e2 : r2.length ≤ 12 := by
      rw [hr2, List.length_append]
      have := held_len lab
      split <;> simp <;> omega
    have e5 : r5.length ≤ 2000 := by rw [hr5, List.length_append]; omega
    rw [← hr1, ← hr2, ← hr5] at HB
    have HN1 : Hid (∀ wx : World, Calls Try.prog 61 #[.slice none 0 0, .int .i64 (X : Int)] wx (GivesBytes wx r1)) := Lib.hid (fun wx => by
      have h := oct_num none 0 0 [] (X : Int) wx rfl Sees.nil_ (by omega)
      rw [List.nil_append, ← hr1] at h
      exact h)
    obtain ⟨n1, hn1⟩ : ∃ n, n = r1.length := ⟨_, rfl⟩
    obtain ⟨n2, hn2⟩ : ∃ n, n = r2.length := ⟨_, rfl⟩
    have HN2 : Hid (b8 = true → ∀ (A' : Option Addr) (c' : Nat) (wx : World), Sees wx wx.heap.size A' (bvs r1) → Calls Try.prog 61 #[.slice A' n1 c', .int .i64 lab] wx (GivesBytes wx r2)) := Lib.hid (fun hb A' c' wx hs' => by
      have h := oct_num A' n1 c' r1 lab wx hn1.symm hs' (by omega)
      rw [hb, if_pos rfl] at hr2
      rw [← hr2] at h; exact h)
    have HSK : Hid (b8 = false → r1 = r2) := Lib.hid (fun hb => by rw [hr2, hb]; simp)
    have HN5 : Hid (∀ (A' : Option Addr) (c' : Nat) (wx : World), Sees wx wx.heap.size A' (bvs r2) → Calls Try.prog 108 #[.slice A' n2 c', .int .u32 (X : Int), .agg (fcells f).toArray] wx (SeesBytes wx r5)) := Lib.hid (fun A' c' wx hs' => by
      have h := HX.out A' n2 c' r2 wx hn2.symm hs' (by omega)
      rw [← hr5] at h; exact h)
    have M1 := Lib.hid hn1
    have M2 := Lib.hid hn2
    have HS := Lib.hid hs
    have HNL := Lib.hid hn
    clear hr1 hr2 hr5 hn1 hn2 HX hs hn e1 e2 hR hX hpc hb8 hok her h0 hf hf5 hfl HCL
    obtain ⟨d0, d1⟩ := Blk.patch (m := (X : Int)) (lab := lab) (f := f) (by have := B0; rw [HPC.out] at this; exact this)
    clear d0 d1
    cases b8
    all_goals
      go_enter Try.func81, Try.ntmps81
      go_wp2_with (first
        | (refine wpList_load_mid rfl 61 (.tmp 3) rfl w.heap.size 0 rfl pc _ RG hu rfl (by rw [HPLen.out]; exact info_patch) ?_)
        | fail)
      refine (HCK.out _).mono ?_
      rintro e w1 ⟨rfl, hb1⟩
      have hbw := hb0.trans (hb1.mono hb0.size)
      replace B0 := B0.later hb1
      obtain ⟨p0, p1⟩ := Blk.patch (m := (X : Int)) (lab := lab) (f := f) (w := w1) (g := w.heap.size) (by rw [← HPC.out]; exact B0)
      clear RG hb1 hb0 HCK
      go_wp2_with fail
      refine (HN1.out _).mono ?_
      rintro e w2 ⟨A2, c2, rfl, o2, b2⟩
      have hs2 := o2.sees
      replace B0 := B0.later b2
      replace hbw := hbw.trans (b2.mono hbw.size)
      clear p0 p1
      obtain ⟨p0, p1⟩ := Blk.patch (m := (X : Int)) (lab := lab) (f := f) (w := w2) (g := w.heap.size) (by rw [← HPC.out]; exact B0)
      rw [← M1.out]
      clear o2 b2
      go_wp2_with fail
      refine (HLB.out _).mono ?_
      rintro e w3 ⟨rfl, rfl⟩
    · have HS12 := HSK.out trivial
      have hn12 : n1 = n2 := by rw [M1.out, M2.out, HS12]
      rw [HS12] at hs2
      clear HSK HN2 HS12 M1 HN1 p1
      subst hn12
      have RF : w2.rangeAt w.heap.size 2 (fcells f) := Blk.fieldsP (by rw [← HPC.out]; exact B0)
      go_wp2_with (first
        | (refine wpList_load_mid rfl 59 (.tmp 27) rfl w.heap.size 2 rfl (fcells f) _ RF hu8 rfl (by rw [HFL.out]; exact info_fields) ?_)
        | fail)
      refine (HN5.out _ _ _ hs2).mono ?_
      rintro e w6 ⟨A5, c5, rfl, s5, b5⟩
      replace hbw := hbw.trans (b5.mono hbw.size)
      have hsA : Sees w6 w6.heap.size A (bvs l) := (HS.out.below hbw).more hbw.size
      obtain ⟨n5, hn5⟩ : ∃ n, n = r5.length := ⟨_, rfl⟩
      rw [← hn5]
      have HCC := Lib.hid (concat_any w6.heap.size 2 2 [l, r5] (w6.alloc (.cells #[.slice A n c, .slice A5 n5 c5] 44)) rfl (by simp) (flat2 44 HNL.out hn5.symm hsA s5) (by omega) (by have := HNL.out; simp; omega))
      have HFL2 : Hid ([l, r5].flatten = R) := Lib.hid (by rw [HB.out]; simp)
      rw [HFL2.out] at HCC
      have hbw2 := hbw.alloc hbw.size (.cells #[.slice A n c, .slice A5 n5 c5] 44)
      clear hn5 s5 b5 B0 RF hsA hbw
      go_wp2_with fail
      refine HCC.out.mono ?_
      rintro e w7 ⟨A7, c7, rfl, o7, b7⟩
      go_wp2_with fail
      go_ret
      exact ⟨A7, c7, rfl, o7.lower hbw2.size, hbw2.trans (b7.mono hbw2.size)⟩
    · clear HSK
      go_wp2_with fail
      refine (HN2.out trivial _ _ _ hs2).mono ?_
      rintro e w4 ⟨A4, c4, rfl, o4, b4⟩
      have hs4 := o4.sees
      replace B0 := B0.later b4
      replace hbw := hbw.trans (b4.mono hbw.size)
      rw [← M2.out]
      clear p0 p1
      obtain ⟨p0, p1⟩ := Blk.patch (m := (X : Int)) (lab := lab) (f := f) (w := w4) (g := w.heap.size) (by rw [← HPC.out]; exact B0)
      have RF : w4.rangeAt w.heap.size 2 (fcells f) := Blk.fieldsP (by rw [← HPC.out]; exact B0)
      clear o4 b4 hs2 HN2 HN1
      go_wp2_with (first
        | (refine wpList_load_mid rfl 59 (.tmp 27) rfl w.heap.size 2 rfl (fcells f) _ RF hu8 rfl (by rw [HFL.out]; exact info_fields) ?_)
        | fail)
      refine (HN5.out _ _ _ hs4).mono ?_
      rintro e w6 ⟨A5, c5, rfl, s5, b5⟩
      replace hbw := hbw.trans (b5.mono hbw.size)
      have hsA : Sees w6 w6.heap.size A (bvs l) := (HS.out.below hbw).more hbw.size
      obtain ⟨n5, hn5⟩ : ∃ n, n = r5.length := ⟨_, rfl⟩
      rw [← hn5]
      have HCC := Lib.hid (concat_any w6.heap.size 2 2 [l, r5] (w6.alloc (.cells #[.slice A n c, .slice A5 n5 c5] 44)) rfl (by simp) (flat2 44 HNL.out hn5.symm hsA s5) (by omega) (by have := HNL.out; simp; omega))
      have HFL2 : Hid ([l, r5].flatten = R) := Lib.hid (by rw [HB.out]; simp)
      rw [HFL2.out] at HCC
      have hbw2 := hbw.alloc hbw.size (.cells #[.slice A n c, .slice A5 n5 c5] 44)
      clear hn5 s5 b5 B0 RF hsA hbw
      go_wp2_with fail
      refine HCC.out.mono ?_
      rintro e w7 ⟨A7, c7, rfl, o7, b7⟩
      go_wp2_with fail
      go_ret
      exact ⟨A7, c7, rfl, o7.lower hbw2.size, hbw2.trans (b7.mono hbw2.size)⟩
  · have HB : Hid (l ++ pbs x lab f = l) := Lib.hid (by unfold pbs; rw [if_pos (by rw [← her]; exact h0)]; simp)
    rw [HB.out]
    have be : (er != 0) = true := by simp [h0]
    clear HB her h0 hpc hs hn
    go_enter Try.func81, Try.ntmps81
    go_wp2_with (first
      | (refine wpList_load_mid rfl 61 (.tmp 3) rfl w.heap.size 0 rfl pc _ RG hu rfl (by rw [HPLen.out]; exact info_patch) ?_)
      | fail)
    refine (HCK.out _).mono ?_
    rintro e w1 ⟨rfl, hb1⟩
    have hbw := hb0.trans (hb1.mono hb0.size)
    clear RG hb1 hb0
    go_wp2_with fail
    refine (HCL.out _ hbw).mono ?_
    rintro e w2 ⟨A2, c2, rfl, ho, hb2⟩
    go_wp2_with fail
    go_ret
    exact ⟨A2, c2, rfl, ho.lower hbw.size, hbw.trans (hb2.mono hbw.size)⟩
end Go.Proofs.Ytgpbglmlakildaa

/- Patches as bytes, by the document: what its PutPatch returns. -/
namespace Go.Proofs.Ytgpbglmlakildaa
set_option linter.unusedVariables false
open Go Go.RowKit BitM OctM

theorem fbs_lst_put (x : BitVec 32) (f : List V3) (k : Nat) (h : has x (k : Int) = true) : fbs (lst x (k + 1)) f = fbs (lst x k) f ++ vbs (f.getD k zv) := by
  rw [lst_succ, if_pos h, fbs_snoc]; simp
theorem lst_skip (x : BitVec 32) (k : Nat) (h : has x (k : Int) = false) : lst x (k + 1) = lst x k := by
  rw [lst_succ, if_neg (by rw [h]; simp)]; simp

set_option maxRecDepth 100000 in
set_option maxHeartbeats 3200000 in
theorem rputpatch_any (x : BitVec 32) (lab : Int) (f : List V3) (w : World) (hf : f.length = 8) (hlb : 0 ≤ lab) :
    Calls Try.prog 82 #[.agg (pcells (x.toNat : Int) lab f).toArray] w fun e w' => e = .returned (.string (str (pbs x lab f))) ∧ Below w.heap.size w w' := by
  have HCK := Lib.hid (fun wx : World => rpcheck_any x lab f wx hf)
  have HPLen : Hid ((pcells (x.toNat : Int) lab f).length = 26) := Lib.hid (pcells_len _ _ hf)
  have B0 := Blk.new w (pcells (x.toNat : Int) lab f) 61
  obtain ⟨pc, hpc⟩ : ∃ pc, pc = pcells (x.toNat : Int) lab f := ⟨_, rfl⟩
  rw [← hpc] at HCK B0 HPLen ⊢
  have hb0 := (Below.refl w.heap.size w).alloc (Nat.le_refl _) (.cells pc.toArray 61)
  have RG := B0.wholeC
  have hu := Try.underlying61
  have HF := Lib.hid hf
  obtain ⟨er, her⟩ : ∃ b, b = pchk x lab f := ⟨_, rfl⟩
  rw [← her] at HCK
  by_cases h0 : er = 0
  · have hok : pchk x lab f = 0 := her.symm.trans h0
    have hlab : lab < 65536 := by
      unfold pchk at hok
      split at hok
      · cases hok
      · split at hok
        · cases hok
        · omega
    have HB : Hid (pbs x lab f = (enc (held (x.toNat : Int)) ++ (if has x 8 = true then enc (held lab) else [])) ++ fbs (lst x 8) f) := Lib.hid (by unfold pbs; rw [if_neg (by rw [hok]; simp), flds_lst])
    obtain ⟨R, hR⟩ : ∃ R, R = str (pbs x lab f) := ⟨_, rfl⟩
    have HR := Lib.hid hR
    rw [← hR]
    have HPC := Lib.hid hpc
    have be : (er != 0) = false := by simp [h0]
    have HLB := Lib.hid (fun wx : World => rlabels_any x wx)
    have HHS := Lib.hid (fun (k : Nat) (wx : World) => rhas_any x (k : Int) wx)
    have HN1 := Lib.hid (fun wx : World => ref_num (x.toNat : Int) wx)
    have HN2 := Lib.hid (fun wx : World => ref_num lab wx)
    obtain ⟨s1, hs1⟩ : ∃ s, s = str (enc (held (x.toNat : Int))) := ⟨_, rfl⟩
    obtain ⟨s2, hs2⟩ : ∃ s, s = str (enc (held lab)) := ⟨_, rfl⟩
    rw [← hs1] at HN1
    rw [← hs2] at HN2
    have z1 : s1.size ≤ 6 := by rw [hs1, str_size]; exact held_len _
    have z2 : s2.size ≤ 6 := by rw [hs2, str_size]; exact held_len _
    obtain ⟨b8, hb8⟩ : ∃ b, b = has x 8 := ⟨_, rfl⟩
    rw [← hb8] at HLB HB
    obtain ⟨s0, hs0⟩ : ∃ s, s = if b8 = true then s1 ++ s2 else s1 := ⟨_, rfl⟩
    have z0 : s0.size ≤ 12 := by
      rw [hs0]
      split
      · rw [ByteArray.size_append]; omega
      · omega
    have HRR : Hid (∀ t : ByteArray, t = str (fbs (lst x 8) f) → s0 ++ t = R) := Lib.hid (fun t ht => by
      rw [HR.out, HB.out, hs0, ht, hs1, hs2]
      cases b8
      · simp [str_append]
      · simp [str_append])
    have HS0 : Hid (b8 = false → s1 = s0) := Lib.hid (fun hb => by rw [hs0, hb]; simp)
    have HS1 : Hid (b8 = true → s1 ++ s2 = s0) := Lib.hid (fun hb => by rw [hs0, hb]; simp)
    have hx4 := x.isLt
    obtain ⟨X, hX⟩ : ∃ X, X = x.toNat := ⟨_, rfl⟩
    rw [← hX] at HN1 hx4 HHS HLB HPC
    obtain ⟨p0, p1⟩ := Blk.patch (m := (X : Int)) (lab := lab) (f := f) (by have := B0; rw [HPC.out] at this; exact this)
    clear hs1 hs2 hs0 hR hpc hb8 hok her h0 hf hX HB p0 p1
    cases b8
    all_goals
      go_enter Try.func82, Try.ntmps82
      go_wp2_with (first
        | (refine wpList_load_mid rfl 61 (.tmp 1) rfl w.heap.size 0 rfl pc _ RG hu rfl (by rw [HPLen.out]; exact info_patch) ?_)
        | fail)
      refine (HCK.out _).mono ?_
      rintro e w1 ⟨rfl, hb1⟩
      have hbw := hb0.trans (hb1.mono hb0.size)
      replace B0 := B0.later hb1
      obtain ⟨p0, p1⟩ := Blk.patch (m := (X : Int)) (lab := lab) (f := f) (w := w1) (g := w.heap.size) (by rw [← HPC.out]; exact B0)
      clear RG hb1 hb0 HCK
      go_wp2_with fail
      refine (HN1.out _).mono ?_
      rintro e w2 ⟨rfl, hb2⟩
      replace hbw := hbw.trans (hb2.mono hbw.size)
      replace B0 := B0.later hb2
      clear p0 p1 hb2
      obtain ⟨p0, p1⟩ := Blk.patch (m := (X : Int)) (lab := lab) (f := f) (w := w2) (g := w.heap.size) (by rw [← HPC.out]; exact B0)
      go_wp2_with fail
      refine (HLB.out _).mono ?_
      rintro e w3 ⟨rfl, rfl⟩
    · have HE : Hid (s1 = s0 ++ ⟨#[]⟩) := Lib.hid (by rw [HS0.out trivial]; exact (ByteArray.append_empty (b := s0)).symm)
      have z1' : s1.size ≤ 12 := by omega
      clear HS0 HS1
      go_wp2_with fail
      clear HN1 HN2 z1 z2 HLB hx4
      go_loopw [3, 4] (fun sv i wr => ∃ k : Nat, k ≤ 8 ∧ i = .int .i64 k ∧ (∃ t u : ByteArray, sv = .string t ∧ Hid (t = s0 ++ u ∧ u = str (fbs (lst x k) f)) ∧ t.size ≤ 12 + 40 * k) ∧ Blk wr w.heap.size pc ∧ Below w.heap.size w wr) (fun _ i _ => 8 - (intOf i).toNat)
      case atStart => exact ⟨0, by omega, rfl, ⟨_, ⟨#[]⟩, rfl, Lib.hid ⟨HE.out, rfl⟩, by omega⟩, B0, hbw⟩
      case round =>
        obtain ⟨k, hk, rfl, ⟨t, u, rfl, HT, ht⟩, D0, hbr⟩ := hrel
        by_cases hlt : k < 8
        · have hkf : k < f.length := by rw [HF.out]; exact hlt
          have HH := Lib.hid (fun wx : World => HHS.out k wx)
          have c0 : ∀ kk : LW wr, kk.val.cell? ⟨w.heap.size, 0, none⟩ = some (.int .u32 (X : Int)) := fun kk => (Blk.patch (lab := lab) (f := f) (by have := D0.later kk.le; rw [HPC.out] at this; exact this)).1
          obtain ⟨p0, p1⟩ := Blk.patch (m := (X : Int)) (lab := lab) (f := f) (w := wr) (g := w.heap.size) (by rw [← HPC.out]; exact D0)
          obtain ⟨l0, l1, l2⟩ := Blk.field (pre := [.int .u32 (X : Int), .int .u32 lab]) (f := f) (g := w.heap.size) (w := wr) (by have := D0; rw [HPC.out] at this; exact this) 2 k rfl hkf
          have hg : f.getD k zv = f[k] := by simp [List.getD, hkf]
          obtain ⟨⟨v0, v1, v2⟩, hv⟩ : ∃ v, v = f[k] := ⟨_, rfl⟩
          rw [← hv] at l0 l1 l2 hg
          simp only at l0 l1 l2
          have hki : (k : Int) < 8 := by omega
          have hk0 : (0 : Int) ≤ (k : Int) := by omega
          obtain ⟨bk, hbk⟩ : ∃ b, b = has x (k : Int) := ⟨_, rfl⟩
          rw [← hbk] at HH
          cases bk
          · have HK2 : Hid (lst x (k + 1) = lst x k) := Lib.hid (lst_skip x k hbk.symm)
            clear hbk hv hg hkf l0 l1 l2 p1 c0
            go_wp2_with fail
            refine (HH.out _).mono ?_
            rintro e w4 ⟨rfl, rfl⟩
            go_wp2_with fail
            go_roundw
            case rel => exact ⟨k + 1, by omega, by go_num, ⟨t, u, rfl, Lib.hid ⟨HT.out.1, by rw [HK2.out]; exact HT.out.2⟩, by omega⟩, D0, hbr⟩
            case measure => simp [intOf]; omega
          · have HK2 : Hid (fbs (lst x (k + 1)) f = fbs (lst x k) f ++ vbs (v0, v1, v2)) := Lib.hid (by rw [← hg]; exact fbs_lst_put x f k hbk.symm)
            have HPV := Lib.hid (fun wx : World => rputval_any v0 v1 v2 wx)
            obtain ⟨t2, ht2⟩ : ∃ t2, t2 = str (vbs (v0, v1, v2)) := ⟨_, rfl⟩
            rw [← ht2] at HPV
            have hz2 : t2.size ≤ 40 := by rw [ht2, str_size]; exact vbs_len _
            have HTT : Hid (t ++ t2 = s0 ++ (u ++ t2) ∧ u ++ t2 = str (fbs (lst x (k + 1)) f)) := Lib.hid ⟨by rw [HT.out.1, ByteArray.append_assoc], by rw [HK2.out, HT.out.2, ht2]; first | exact (str_append _ _).symm | exact str_append _ _⟩
            have hsz : (t ++ t2).size = t.size + t2.size := by simp
            have HSZ := Lib.hid hsz
            clear hbk hv hg hkf ht2 hsz p1 c0
            go_wp2_with fail
            refine (HH.out _).mono ?_
            rintro e w4 ⟨rfl, rfl⟩
            go_wp2_with fail
            refine (HPV.out _).mono ?_
            rintro e w4 ⟨rfl, hb4⟩
            have D2 := D0.later hb4
            have hbr2 := hbr.trans (hb4.mono hbr.size)
            clear D0 hb4 hbr l0 l1 l2
            go_wp2_with fail
            go_roundw
            case rel => exact ⟨k + 1, by omega, by go_num, ⟨t ++ t2, u ++ t2, rfl, HTT, by rw [HSZ.out]; omega⟩, D2, hbr2⟩
            case measure => simp [intOf]; omega
        · obtain rfl : k = 8 := by omega
          have HR8 := HRR.out u HT.out.2
          rw [← HT.out.1] at HR8
          subst HR8
          clear HRR HT
          go_wp2_with fail
          go_ret
          exact ⟨rfl, hbr⟩
    · have HE : Hid (s1 ++ s2 = s0 ++ ⟨#[]⟩) := Lib.hid (by rw [HS1.out trivial]; exact (ByteArray.append_empty (b := s0)).symm)
      have z1' : (s1 ++ s2).size ≤ 12 := by rw [ByteArray.size_append]; omega
      have Z1 := Lib.hid z1'
      clear HS0 HS1 z1'
      go_wp2_with fail
      refine (HN2.out _).mono ?_
      rintro e w4 ⟨rfl, hb4⟩
      replace hbw := hbw.trans (hb4.mono hbw.size)
      replace B0 := B0.later hb4
      clear p0 p1 hb4
      go_wp2_with fail
      have z1' := Z1.out
      clear HN1 HN2 z1 z2 HLB hx4
      go_loopw [3, 4] (fun sv i wr => ∃ k : Nat, k ≤ 8 ∧ i = .int .i64 k ∧ (∃ t u : ByteArray, sv = .string t ∧ Hid (t = s0 ++ u ∧ u = str (fbs (lst x k) f)) ∧ t.size ≤ 12 + 40 * k) ∧ Blk wr w.heap.size pc ∧ Below w.heap.size w wr) (fun _ i _ => 8 - (intOf i).toNat)
      case atStart => exact ⟨0, by omega, rfl, ⟨_, ⟨#[]⟩, rfl, Lib.hid ⟨HE.out, rfl⟩, by omega⟩, B0, hbw⟩
      case round =>
        obtain ⟨k, hk, rfl, ⟨t, u, rfl, HT, ht⟩, D0, hbr⟩ := hrel
        by_cases hlt : k < 8
        · have hkf : k < f.length := by rw [HF.out]; exact hlt
          have HH := Lib.hid (fun wx : World => HHS.out k wx)
          have c0 : ∀ kk : LW wr, kk.val.cell? ⟨w.heap.size, 0, none⟩ = some (.int .u32 (X : Int)) := fun kk => (Blk.patch (lab := lab) (f := f) (by have := D0.later kk.le; rw [HPC.out] at this; exact this)).1
          obtain ⟨p0, p1⟩ := Blk.patch (m := (X : Int)) (lab := lab) (f := f) (w := wr) (g := w.heap.size) (by rw [← HPC.out]; exact D0)
          obtain ⟨l0, l1, l2⟩ := Blk.field (pre := [.int .u32 (X : Int), .int .u32 lab]) (f := f) (g := w.heap.size) (w := wr) (by have := D0; rw [HPC.out] at this; exact this) 2 k rfl hkf
          have hg : f.getD k zv = f[k] := by simp [List.getD, hkf]
          obtain ⟨⟨v0, v1, v2⟩, hv⟩ : ∃ v, v = f[k] := ⟨_, rfl⟩
          rw [← hv] at l0 l1 l2 hg
          simp only at l0 l1 l2
          have hki : (k : Int) < 8 := by omega
          have hk0 : (0 : Int) ≤ (k : Int) := by omega
          obtain ⟨bk, hbk⟩ : ∃ b, b = has x (k : Int) := ⟨_, rfl⟩
          rw [← hbk] at HH
          cases bk
          · have HK2 : Hid (lst x (k + 1) = lst x k) := Lib.hid (lst_skip x k hbk.symm)
            clear hbk hv hg hkf l0 l1 l2 p1 c0
            go_wp2_with fail
            refine (HH.out _).mono ?_
            rintro e w4 ⟨rfl, rfl⟩
            go_wp2_with fail
            go_roundw
            case rel => exact ⟨k + 1, by omega, by go_num, ⟨t, u, rfl, Lib.hid ⟨HT.out.1, by rw [HK2.out]; exact HT.out.2⟩, by omega⟩, D0, hbr⟩
            case measure => simp [intOf]; omega
          · have HK2 : Hid (fbs (lst x (k + 1)) f = fbs (lst x k) f ++ vbs (v0, v1, v2)) := Lib.hid (by rw [← hg]; exact fbs_lst_put x f k hbk.symm)
            have HPV := Lib.hid (fun wx : World => rputval_any v0 v1 v2 wx)
            obtain ⟨t2, ht2⟩ : ∃ t2, t2 = str (vbs (v0, v1, v2)) := ⟨_, rfl⟩
            rw [← ht2] at HPV
            have hz2 : t2.size ≤ 40 := by rw [ht2, str_size]; exact vbs_len _
            have HTT : Hid (t ++ t2 = s0 ++ (u ++ t2) ∧ u ++ t2 = str (fbs (lst x (k + 1)) f)) := Lib.hid ⟨by rw [HT.out.1, ByteArray.append_assoc], by rw [HK2.out, HT.out.2, ht2]; first | exact (str_append _ _).symm | exact str_append _ _⟩
            have hsz : (t ++ t2).size = t.size + t2.size := by simp
            have HSZ := Lib.hid hsz
            clear hbk hv hg hkf ht2 hsz p1 c0
            go_wp2_with fail
            refine (HH.out _).mono ?_
            rintro e w4 ⟨rfl, rfl⟩
            go_wp2_with fail
            refine (HPV.out _).mono ?_
            rintro e w4 ⟨rfl, hb4⟩
            have D2 := D0.later hb4
            have hbr2 := hbr.trans (hb4.mono hbr.size)
            clear D0 hb4 hbr l0 l1 l2
            go_wp2_with fail
            go_roundw
            case rel => exact ⟨k + 1, by omega, by go_num, ⟨t ++ t2, u ++ t2, rfl, HTT, by rw [HSZ.out]; omega⟩, D2, hbr2⟩
            case measure => simp [intOf]; omega
        · obtain rfl : k = 8 := by omega
          have HR8 := HRR.out u HT.out.2
          rw [← HT.out.1] at HR8
          subst HR8
          clear HRR HT
          go_wp2_with fail
          go_ret
          exact ⟨rfl, hbr⟩
  · have HB : Hid (str (pbs x lab f) = ⟨#[]⟩) := Lib.hid (by unfold pbs; rw [if_pos (by rw [← her]; exact h0)]; rfl)
    rw [HB.out]
    have be : (er != 0) = true := by simp [h0]
    clear HB her h0 hpc hf
    go_enter Try.func82, Try.ntmps82
    go_wp2_with (first
      | (refine wpList_load_mid rfl 61 (.tmp 1) rfl w.heap.size 0 rfl pc _ RG hu rfl (by rw [HPLen.out]; exact info_patch) ?_)
      | fail)
    refine (HCK.out _).mono ?_
    rintro e w1 ⟨rfl, hb1⟩
    have hbw := hb0.trans (hb1.mono hb0.size)
    clear RG hb1 hb0
    go_wp2_with fail
    go_ret
    exact ⟨rfl, hbw⟩
end Go.Proofs.Ytgpbglmlakildaa

/- Cards as bytes: whether the layer is awake; a slice of bytes as a string. -/
namespace Go.Proofs.Ytgpbglmlakildaa
set_option linter.unusedVariables false
open Go Go.RowKit BitM OctM

theorem str_conv (w : World) (B : Nat) (A : Option Addr) (n c : Nat) (l : List UInt8) (s : ByteArray) (hn : l.length = n) (hs : Sees w B A (bvs l)) (h : s = str l) : (convert 44 9 (.slice A n c)).run Try.prog w = .ok (.string s) w := by
  subst h
  exact run_str (P := Try.prog) w B 44 5 9 Try.underlying44 Try.underlying5 Try.underlying9 A n c l hn hs

section
variable {P : Program} {w : World} {a : Act} {op : Oper}
theorem exec_conv (x : Operand) (t u : TypeId) (ho : op.op = .convert t u x) (v : Value) (hx : a.eval x = v) (r : Value) (h : (convert t u v).run P w = .ok r w) : (execOp a.eval op).run P w = .ok (.value r) w := by
  unfold execOp
  simp only [ho, hx, Sem.run_bind, Sem.run_pure, Result.andThen_ok, h]
end

/-- The card that awake writes. -/
def awk : List V3 := zv :: (1, 7, ⟨#[]⟩) :: List.replicate 6 zv
theorem awk_bytes : cbs 1 2 1 awk = [1, 2, 1, 2, 1, 7] := by decide +kernel
theorem awk_cells : (ccells 1 2 1 zeros).take 6 ++ vcells (1, 7, ⟨#[]⟩) ++ (ccells 1 2 1 zeros).drop 9 = ccells 1 2 1 awk := rfl

end Go.Proofs.Ytgpbglmlakildaa

/- CardwirePuts: the walk. -/
namespace Go.Proofs.Ytgpbglmlakildaa
set_option linter.unusedVariables false
open Go Go.RowKit BitM OctM

theorem pbs_len (x : BitVec 32) (lab : Int) (f : List V3) : (pbs x lab f).length ≤ 400 := by
  unfold pbs
  split
  · simp
  · simp only [List.length_append]
    have h1 := held_len (x.toNat : Int)
    have h2 := held_len lab
    have h5 := fbs_len (lst x 8) f
    have h6 := lst_len x 8
    rw [flds_lst]
    split <;> first | omega | (simp only [List.length_nil]; omega)

end Go.Proofs.Ytgpbglmlakildaa

/- What taking a number off a text gives, as the document says it: mathematics alone. -/
namespace Go.Proofs.Ytgpbglmlakildaa.OctM
/-- The value of the first n bytes, seven bits each. -/
def val (l : List UInt8) : Nat → Nat
  | 0 => 0
  | n + 1 => val l n + (l.getD n 0).toNat % 128 * 128 ^ n
theorem scan_run (l : List UInt8) : ∀ n, n ≤ 6 → n ≤ l.length → (∀ j, j < n → 128 ≤ (l.getD j 0).toNat) → scan l 0 0 = scan (l.drop n) n (val l n)
  | 0, _, _, _ => rfl
  | n + 1, h6, hl, ha => by
    rw [scan_run l n (by omega) (by omega) (fun j hj => ha j (by omega))]
    have hd : l.drop n = l[n] :: l.drop (n + 1) := List.drop_eq_getElem_cons (by omega)
    have hg : l.getD n 0 = l[n] := by simp [List.getD, List.getElem?_eq_getElem (show n < l.length by omega)]
    have h1 := ha n (by omega)
    rw [hg] at h1
    rw [hd, scan, if_neg (by omega), if_neg (by omega), val, hg]
/-- What the document's next gives. -/
def nextOut (l : List UInt8) (most : Int) : Nat × Nat × Nat :=
  if (scan l 0 0).2.2 ≠ 0 then (0, 0, (scan l 0 0).2.2)
  else if 1099511627776 < ((scan l 0 0).1 : Int) ∨ most < ((scan l 0 0).1 : Int) then (0, 0, 4)
  else scan l 0 0
theorem next_six (l : List UInt8) (most : Int) (hl : 6 ≤ l.length) (ha : ∀ j, j < 6 → 128 ≤ (l.getD j 0).toNat) : nextOut l most = (0, 0, 3) := by
  have h := scan_run l 6 (Nat.le_refl _) hl ha
  have h2 : scan (l.drop 6) 6 (val l 6) = (0, 0, 3) := by
    cases l.drop 6 with
    | nil => simp [scan]
    | cons c r => simp [scan]
  unfold nextOut
  rw [h, h2]; simp
theorem next_short (l : List UInt8) (most : Int) (hl : l.length < 6) (ha : ∀ j, j < l.length → 128 ≤ (l.getD j 0).toNat) : nextOut l most = (0, 0, 2) := by
  have h := scan_run l l.length (by omega) (Nat.le_refl _) ha
  rw [List.drop_length] at h
  have h2 : scan ([] : List UInt8) l.length (val l l.length) = (0, 0, 2) := by simp [scan]; omega
  unfold nextOut
  rw [h, h2]; simp
theorem next_low (l : List UInt8) (n : Nat) (h6 : n < 6) (hl : n < l.length) (ha : ∀ j, j < n → 128 ≤ (l.getD j 0).toNat) (hn : (l.getD n 0).toNat < 128) :
    scan l 0 0 = if (l.getD n 0).toNat = 0 ∧ 0 < n then (0, 0, 3) else (val l (n + 1), n + 1, 0) := by
  rw [scan_run l n (by omega) (by omega) ha]
  have hd : l.drop n = l[n] :: l.drop (n + 1) := List.drop_eq_getElem_cons hl
  have hg : l.getD n 0 = l[n] := by simp [List.getD, List.getElem?_eq_getElem hl]
  rw [hg] at hn ⊢
  rw [hd, scan, if_neg (by omega), if_pos hn, val, hg]
end Go.Proofs.Ytgpbglmlakildaa.OctM

/- The document's next: what it returns. -/
namespace Go.Proofs.Ytgpbglmlakildaa
set_option linter.unusedVariables false
open Go.RowKit OctM

theorem getD_str (l : List UInt8) (k : Nat) (h : k < (str l).size) : (str l)[k] = l.getD k 0 := by
  rw [str_get]
  have : k < l.length := by rw [← str_size]; exact h
  simp [List.getD, List.getElem?_eq_getElem this]

set_option maxRecDepth 8000 in
set_option maxHeartbeats 1600000 in
theorem ref_next (l : List UInt8) (most : Int) (w : World) (hm : l.length ≤ 2097152) :
    Calls Try.prog 98 #[.string (str l), .int .i64 most] w fun e w' =>
      e = .returned (.tuple #[.int .i64 ((nextOut l most).1 : Nat), .int .i64 ((nextOut l most).2.1 : Nat), .int .i64 ((nextOut l most).2.2 : Nat)]) ∧ w = w' := by
  have hsz := str_size l
  go_enter Try.func98, Try.ntmps98
  go_wp2_with fail
  go_loop [7] (fun i => ∃ k : Nat, k ≤ 6 ∧ k ≤ l.length ∧ i = .int .i64 k ∧ (∀ j, j < k → 128 ≤ (l.getD j 0).toNat)) (fun i => 6 - (intOf i).toNat)
  case atStart => exact ⟨0, Nat.zero_le _, Nat.zero_le _, rfl, fun j h => absurd h (Nat.not_lt_zero j)⟩
  case round =>
    obtain ⟨k, hk6, hkl, rfl, ha⟩ := hrel
    have HA := Lib.hid ha
    clear ha
    by_cases h6 : k < 6
    · have d6 : decide ((k : Int) < 6) = true := by simp; omega
      by_cases hl : k < l.length
      · have dl : decide ((k : Int) < (l.length : Int)) = true := by simp; omega
        have hks : k < (str l).size := by rw [hsz]; exact hl
        by_cases hx : 128 ≤ (l.getD k 0).toNat
        · have dx : decide ((128 : Int) ≤ ((str l)[k].toNat : Int)) = true := by rw [getD_str]; exact decide_eq_true (by omega)
          have HX := Lib.hid hx
          clear hx
          go_wp2_with fail
          go_round
          case rel => exact ⟨k + 1, by omega, by omega, by go_num, fun j hj => by
            by_cases e : j = k
            · rw [e]; exact HX.out
            · exact HA.out j (by omega)⟩
          case measure => simp [intOf]; try omega
        · have dx : decide ((128 : Int) ≤ ((str l)[k].toNat : Int)) = false := by rw [getD_str]; exact decide_eq_false (by omega)
          have hlow := next_low l k h6 hl HA.out (by omega)
          have hk7 : k < 7 := by omega
          by_cases hz : (l.getD k 0).toNat = 0 ∧ 0 < k
          · have HR := Lib.hid (show nextOut l most = (0, 0, 3) from by unfold nextOut; rw [hlow, if_pos hz]; simp)
            have dz : (((str l)[k].toNat : Int) == 0) = true := by rw [getD_str, hz.1]; rfl
            have dk : decide ((0 : Int) < (k : Int)) = true := by simp; omega
            have dk' : decide (0 < k) = true := by simp; omega
            have he6 : ((k : Int) == 6) = false := by simp; omega
            have hel : ((k : Int) == (l.length : Int)) = false := by simp; omega
            have HX := Lib.hid hx
            have HZ := Lib.hid hz
            clear hx hz hlow
            go_wp2_with fail
            go_ret3
            exact ⟨by rw [HR.out]; rfl, rfl⟩
          · have HNO := Lib.hid (show nextOut l most = if 1099511627776 < (val l (k + 1) : Int) ∨ most < (val l (k + 1) : Int) then (0, 0, 4) else (val l (k + 1), k + 1, 0) from by unfold nextOut; rw [hlow, if_neg hz]; simp)
            have he6 : ((k : Int) == 6) = false := by simp; omega
            have hel : ((k : Int) == (l.length : Int)) = false := by simp; omega
            have hk5 : k ≤ 5 := by omega
            by_cases hk0 : 0 < k
            · have dk : decide ((0 : Int) < (k : Int)) = true := by simp; omega
              have dk' : decide (0 < k) = true := by simp; omega
              have dz : (((str l)[k].toNat : Int) == 0) = false := by
                rw [getD_str]
                have : (l.getD k 0).toNat ≠ 0 := fun h => hz ⟨h, hk0⟩
                rw [beq_eq_false_iff_ne]; omega
              have HX := Lib.hid hx
              have HZ := Lib.hid hz
              clear hx hz hlow
              go_wp2_with fail
              go_loop [8, 9] (fun v i => ∃ r u : Nat, r ≤ k + 1 ∧ v = .int .i64 u ∧ i = .int .i64 ((r : Int) - 1) ∧ val l (k + 1) = val l r + u * 128 ^ r ∧ u < 128 ^ (k + 1 - r)) (fun _ i => ((intOf i) + 1).toNat)
              case atStart => exact ⟨k + 1, 0, Nat.le_refl _, rfl, by simp, by simp, by simp⟩
              case round =>
                obtain ⟨r, u, hrk, rfl, rfl, hv, hu⟩ := hrel
                have HV := Lib.hid hv
                have HU := Lib.hid hu
                clear hv
                by_cases hr0 : r = 0
                · subst hr0
                  have HW := Lib.hid (show val l (k + 1) = u from by rw [HV.out]; simp [val])
                  have HNO2 := Lib.hid (show nextOut l most = if 1099511627776 < (u : Int) ∨ most < (u : Int) then (0, 0, 4) else (u, k + 1, 0) from by rw [HNO.out, HW.out])
                  clear hu
                  by_cases hb : 1099511627776 < (u : Int)
                  · have HR := Lib.hid (show nextOut l most = (0, 0, 4) from by rw [HNO2.out, if_pos (.inl hb)])
                    have db : decide ((1099511627776 : Int) < (u : Int)) = true := decide_eq_true hb
                    clear hb
                    go_wp2_with fail
                    go_ret3
                    exact ⟨by rw [HR.out]; rfl, rfl⟩
                  · have db : decide ((1099511627776 : Int) < (u : Int)) = false := decide_eq_false hb
                    by_cases hb2 : most < (u : Int)
                    · have HR := Lib.hid (show nextOut l most = (0, 0, 4) from by rw [HNO2.out, if_pos (.inr hb2)])
                      have db2 : decide (most < (u : Int)) = true := decide_eq_true hb2
                      clear hb hb2
                      go_wp2_with fail
                      go_ret3
                      exact ⟨by rw [HR.out]; rfl, rfl⟩
                    · have HR := Lib.hid (show nextOut l most = (u, k + 1, 0) from by rw [HNO2.out, if_neg (by omega)])
                      have db2 : decide (most < (u : Int)) = false := decide_eq_false hb2
                      clear hb hb2
                      go_wp2_with fail
                      go_ret3
                      exact ⟨by rw [HR.out]; rfl, rfl⟩
                · obtain ⟨q, rfl⟩ : ∃ q, r = q + 1 := ⟨r - 1, by omega⟩
                  have hub : u < 34359738368 := Nat.lt_of_lt_of_le hu (Nat.le_trans (Nat.pow_le_pow_right (by omega) (show k + 1 - (q + 1) ≤ 5 by omega)) (by decide))
                  have hqs : q < (str l).size := by rw [hsz]; omega
                  have dq : decide ((0 : Int) ≤ ((q + 1 : Nat) : Int) - 1) = true := by simp; try omega
                  have hqe : ((q + 1 : Nat) : Int) - 1 = (q : Int) := by omega
                  rw [hqe]
                  have hxq := (str l)[q].toNat_lt
                  have HQ := Lib.hid (getD_str l q hqs)
                  clear hu hr0
                  go_wp2_with fail
                  go_round
                  case rel =>
                    refine ⟨q, u * 128 + (l.getD q 0).toNat % 128, by omega, by rw [← HQ.out]; go_num, by go_num, ?_, ?_⟩
                    · rw [HV.out, val, Nat.pow_succ, Nat.add_mul]; 
                      have : u * (128 ^ q * 128) = u * 128 * 128 ^ q := by rw [Nat.mul_comm (128 ^ q), Nat.mul_assoc]
                      omega
                    · have e : k + 1 - q = (k + 1 - (q + 1)) + 1 := by omega
                      have := HU.out
                      rw [e, Nat.pow_succ]
                      omega
                  case measure => simp [intOf]
            · have dk : decide ((0 : Int) < (k : Int)) = false := by simp; omega
              have dk' : decide (0 < k) = false := by simp; omega
              have HX := Lib.hid hx
              have HZ := Lib.hid hz
              clear hx hz hlow
              go_wp2_with fail
              go_loop [8, 9] (fun v i => ∃ r u : Nat, r ≤ k + 1 ∧ v = .int .i64 u ∧ i = .int .i64 ((r : Int) - 1) ∧ val l (k + 1) = val l r + u * 128 ^ r ∧ u < 128 ^ (k + 1 - r)) (fun _ i => ((intOf i) + 1).toNat)
              case atStart => exact ⟨k + 1, 0, Nat.le_refl _, rfl, by simp, by simp, by simp⟩
              case round =>
                obtain ⟨r, u, hrk, rfl, rfl, hv, hu⟩ := hrel
                have HV := Lib.hid hv
                have HU := Lib.hid hu
                clear hv
                by_cases hr0 : r = 0
                · subst hr0
                  have HW := Lib.hid (show val l (k + 1) = u from by rw [HV.out]; simp [val])
                  have HNO2 := Lib.hid (show nextOut l most = if 1099511627776 < (u : Int) ∨ most < (u : Int) then (0, 0, 4) else (u, k + 1, 0) from by rw [HNO.out, HW.out])
                  clear hu
                  by_cases hb : 1099511627776 < (u : Int)
                  · have HR := Lib.hid (show nextOut l most = (0, 0, 4) from by rw [HNO2.out, if_pos (.inl hb)])
                    have db : decide ((1099511627776 : Int) < (u : Int)) = true := decide_eq_true hb
                    clear hb
                    go_wp2_with fail
                    go_ret3
                    exact ⟨by rw [HR.out]; rfl, rfl⟩
                  · have db : decide ((1099511627776 : Int) < (u : Int)) = false := decide_eq_false hb
                    by_cases hb2 : most < (u : Int)
                    · have HR := Lib.hid (show nextOut l most = (0, 0, 4) from by rw [HNO2.out, if_pos (.inr hb2)])
                      have db2 : decide (most < (u : Int)) = true := decide_eq_true hb2
                      clear hb hb2
                      go_wp2_with fail
                      go_ret3
                      exact ⟨by rw [HR.out]; rfl, rfl⟩
                    · have HR := Lib.hid (show nextOut l most = (u, k + 1, 0) from by rw [HNO2.out, if_neg (by omega)])
                      have db2 : decide (most < (u : Int)) = false := decide_eq_false hb2
                      clear hb hb2
                      go_wp2_with fail
                      go_ret3
                      exact ⟨by rw [HR.out]; rfl, rfl⟩
                · obtain ⟨q, rfl⟩ : ∃ q, r = q + 1 := ⟨r - 1, by omega⟩
                  have hub : u < 34359738368 := Nat.lt_of_lt_of_le hu (Nat.le_trans (Nat.pow_le_pow_right (by omega) (show k + 1 - (q + 1) ≤ 5 by omega)) (by decide))
                  have hqs : q < (str l).size := by rw [hsz]; omega
                  have dq : decide ((0 : Int) ≤ ((q + 1 : Nat) : Int) - 1) = true := by simp; try omega
                  have hqe : ((q + 1 : Nat) : Int) - 1 = (q : Int) := by omega
                  rw [hqe]
                  have hxq := (str l)[q].toNat_lt
                  have HQ := Lib.hid (getD_str l q hqs)
                  clear hu hr0
                  go_wp2_with fail
                  go_round
                  case rel =>
                    refine ⟨q, u * 128 + (l.getD q 0).toNat % 128, by omega, by rw [← HQ.out]; go_num, by go_num, ?_, ?_⟩
                    · rw [HV.out, val, Nat.pow_succ, Nat.add_mul]; 
                      have : u * (128 ^ q * 128) = u * 128 * 128 ^ q := by rw [Nat.mul_comm (128 ^ q), Nat.mul_assoc]
                      omega
                    · have e : k + 1 - q = (k + 1 - (q + 1)) + 1 := by omega
                      have := HU.out
                      rw [e, Nat.pow_succ]
                      omega
                  case measure => simp [intOf]
      · have HR := Lib.hid (next_short l most (by omega) (fun j hj => HA.out j (by omega)))
        obtain rfl : k = l.length := by omega
        have he6 : ((l.length : Int) == 6) = false := by simp; omega
        go_wp2_with fail
        go_ret3
        exact ⟨by rw [HR.out]; rfl, rfl⟩
    · obtain rfl : k = 6 := by omega
      have HR := Lib.hid (next_six l most hkl HA.out)
      go_wp2_with fail
      go_ret3
      exact ⟨by rw [HR.out]; rfl, rfl⟩
end Go.Proofs.Ytgpbglmlakildaa
