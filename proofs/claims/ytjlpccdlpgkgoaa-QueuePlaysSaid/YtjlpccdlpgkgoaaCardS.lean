/- Cards: which values may be: what it returns. -/
import Derived.Test.YtjlpccdlpgkgoaaCardR
import Derived.Test.YtjlpccdlpgkgoaaCardQ
namespace Go.Proofs.Ytjlpccdlpgkgoaa
set_option linter.unusedVariables false
open Go Go.RowKit BitM

theorem zv3 : (vcells zv).toArray = #[Value.int .i64 0, .int .i64 0, .string { data := #[] }] := rfl

/-- f[k] of an array of values. -/
theorem run_index_val (f : List V3) (k : Nat) (hk : k < f.length) (hf : f.length = 8) (w : World) :
    (Instr.index 30 (.agg (fcells f).toArray) (.int .i64 (k : Int))).run Try.prog w = .ok (.agg (vcells f[k]).toArray) w := by
  have hsz : ∀ w, (sizeOf 29).run Try.prog w = .ok 3 w := fun w => by kernel_rfl
  have hag : ∀ w, (isAgg 29).run Try.prog w = .ok true w := fun w => by kernel_rfl
  have h8 : (0 : Int) ≤ (k : Int) ∧ (k : Int) < ((8 : Nat) : Int) := by omega
  have hp : (part 29 (fcells f).toArray (k * 3)).run Try.prog w = .ok (.agg (vcells f[k]).toArray) w := by
    simp only [part, Sem.run_bind, hag, Result.andThen_ok, hsz, if_true, Sem.run_pure, fcells_ext f k hk]
  simp only [Instr.index, asIntOf, Sem.run_bind, Sem.run_pure, Result.andThen_ok, run_underlying Try.underlying30, if_pos h8, hsz, Int.toNat_natCast, hp]
theorem exec_index {a : Act} {w : World} {op : Oper} (f : List V3) (k : Nat) (hk : k < f.length) (hf : f.length = 8) (x y : Operand) (ho : op.op = .index 30 x y) (hx : a.eval x = .agg (fcells f).toArray) (hy : a.eval y = .int .i64 (k : Int)) :
    (execOp a.eval op).run Try.prog w = .ok (.value (.agg (vcells f[k]).toArray)) w := by
  unfold execOp
  simp only [ho, hx, hy, Sem.run_bind, run_index_val f k hk hf, Result.andThen_ok, Sem.run_pure]

set_option maxRecDepth 100000 in
set_option maxHeartbeats 1600000 in
theorem values_any (f : List V3) (w : World) (hf : f.length = 8) :
    Calls Try.prog 29 #[.agg (fcells f).toArray] w fun e w' => e = .returned (.bool (vk f 8)) ∧ Below w.heap.size w w' := by
  have HF := Lib.hid hf
  have HFL : Hid ((fcells f).length = 24) := Lib.hid (by rw [fcells_len, hf])
  have B0 := Blk.new w (fcells f) 30
  obtain ⟨fa, hfa⟩ : ∃ fa, fa = (fcells f).toArray := ⟨_, rfl⟩
  rw [← hfa] at B0 ⊢
  have HB := Lib.hid ((Below.refl w.heap.size w).alloc (Nat.le_refl _) (.cells fa 30))
  obtain ⟨R, hR⟩ : ∃ R, R = vk f 8 := ⟨_, rfl⟩
  rw [← hR]
  have HR := Lib.hid hR
  have RG := B0.wholeC
  have hu8 := Try.underlying30
  have hu := Try.underlying29
  have HFA := Lib.hid hfa
  clear hfa hf hR B0
  go_enter Try.func29, Try.ntmps29
  go_wp2_with (first
    | (refine wpList_load_mid rfl 30 (.tmp 1) rfl w.heap.size 0 rfl (fcells f) _ RG hu8 rfl (by rw [HFL.out]; exact info_fields) ?_))
  clear RG
  go_loopw [6] (fun i wr => ∃ k : Nat, k ≤ 8 ∧ i = .int .i64 k ∧ Hid (vk f k = true) ∧ Below w.heap.size w wr) (fun i _ => 8 - (intOf i).toNat)
  case atStart => exact ⟨0, by omega, rfl, Lib.hid rfl, HB.out⟩
  case round =>
    obtain ⟨k, hk, rfl, HK, hbr⟩ := hrel
    clear HB
    by_cases hlt : k < 8
    · have hkf : k < f.length := by rw [HF.out]; exact hlt
      have d8 : (k : Int) < 8 := by omega
      have HS := Lib.hid (vk_succ f k)
      obtain ⟨v, hv⟩ : ∃ v, v = f[k] := ⟨_, rfl⟩
      have hg : f.getD k zv = v := by rw [hv]; simp [List.getD, hkf]
      have HG := Lib.hid hg
      have HV := Lib.hid hv
      obtain ⟨v0, v1, v2⟩ := v
      have HC := Lib.hid (fun wx : World => vcheck_any v0 v1 v2 wx)
      have A1 := Blk.new wr (vcells zv) 29
      have TH := A1.there 0 3 (by simp [vcells])
      have E1 := A1.whole (ds := vcells (v0, v1, v2)) rfl
      have RGV := E1.wholeC
      have EB := below_sets (B := w.heap.size) (b := wr.heap.size) hbr.size (vcells (v0, v1, v2)) 0 (hbr.alloc hbr.size (.cells (vcells zv).toArray 29))
      have hone : ∀ u ∈ vcells (v0, v1, v2), u.oneCell' = true := by intro u hu; simp [vcells] at hu; rcases hu with rfl | rfl | rfl <;> rfl
      rw [zv3] at TH RGV EB
      have HEB := Lib.hid EB
      clear hv hg A1 E1 EB
      cases hc : vchk (v0, v1, v2) with
      | false =>
        rw [hc] at HC
        have HCC := Lib.hid hc
        clear hc
        go_wp2_with (first
          | (refine wpList_exec (op := ⟨some 8, .index 30 _ _, _, _, _, _⟩) (by rfl) (.agg (vcells (v0, v1, v2)).toArray) (by rw [HV.out]; exact exec_index f k hkf HF.out (.tmp 5) (.tmp 6) rfl rfl rfl) ?_)
          | (refine wpList_store_mid rfl 29 (.tmp 4) (.tmp 8) rfl wr.heap.size 0 (vcells (v0, v1, v2)).toArray rfl rfl (by simpa [vcells] using TH) (by simpa [vcells] using info_val) (all_oneCell_toArray hone) ?_)
          | (refine wpList_load_mid rfl 29 (.tmp 4) rfl wr.heap.size 0 rfl (vcells (v0, v1, v2)) _ RGV hu rfl info_val ?_))
        refine (HC.out _).mono ?_
        rintro e w1 ⟨rfl, hb⟩
        have hbw := HEB.out.trans (hb.mono HEB.out.size)
        clear TH RGV HEB hb
        go_wp2_with fail
        go_ret
        refine ⟨?_, hbw⟩
        have hfin : R = false := by rw [HR.out]; exact vk_mono f (j := k + 1) (by omega) (by rw [HS.out, HG.out, HCC.out]; simp)
        rw [hfin]
        rfl
      | true =>
        rw [hc] at HC
        have HCC := Lib.hid hc
        clear hc
        go_wp2_with (first
          | (refine wpList_exec (op := ⟨some 8, .index 30 _ _, _, _, _, _⟩) (by rfl) (.agg (vcells (v0, v1, v2)).toArray) (by rw [HV.out]; exact exec_index f k hkf HF.out (.tmp 5) (.tmp 6) rfl rfl rfl) ?_)
          | (refine wpList_store_mid rfl 29 (.tmp 4) (.tmp 8) rfl wr.heap.size 0 (vcells (v0, v1, v2)).toArray rfl rfl (by simpa [vcells] using TH) (by simpa [vcells] using info_val) (all_oneCell_toArray hone) ?_)
          | (refine wpList_load_mid rfl 29 (.tmp 4) rfl wr.heap.size 0 rfl (vcells (v0, v1, v2)) _ RGV hu rfl info_val ?_))
        refine (HC.out _).mono ?_
        rintro e w1 ⟨rfl, hb⟩
        have hbw := HEB.out.trans (hb.mono HEB.out.size)
        clear TH RGV HEB hb
        go_wp2_with fail
        go_roundw
        case rel => exact ⟨k + 1, by omega, by go_num, Lib.hid (by rw [HS.out, HK.out, HG.out, HCC.out]; rfl), hbw⟩
        case measure => simp [intOf]; omega
    · obtain rfl : k = 8 := by omega
      go_wp2_with fail
      go_ret
      exact ⟨by rw [HR.out, HK.out]; rfl, hbr⟩
end Go.Proofs.Ytjlpccdlpgkgoaa
