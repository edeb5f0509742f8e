/- Cards as bytes, by the document: what its PutCard returns. -/
import Derived.Test.YticdpfjajkfheaaWirD
namespace Go.Proofs.Yticdpfjajkfheaa
set_option linter.unusedVariables false
open Go Go.RowKit BitM OctM

theorem fbs_kl_succ (f : List V3) (k : Nat) (h : (f.getD k zv).1 ≠ 0) : fbs (kl f (k + 1)) f = fbs (kl f k) f ++ vbs (f.getD k zv) := by
  rw [kl_succ, if_pos h, fbs_snoc]; simp
theorem kl_skip (f : List V3) (k : Nat) (h : (f.getD k zv).1 = 0) : kl f (k + 1) = kl f k := by
  rw [kl_succ, if_neg (fun hn => hn h)]; simp
theorem ofl_kl_succ (f : List V3) (k : Nat) (h : (f.getD k zv).1 ≠ 0) : ofl (kl f (k + 1)) = put (ofl (kl f k)) (k : Int) := by
  rw [kl_succ, if_pos h, ofl_snoc]

set_option maxRecDepth 100000 in
set_option maxHeartbeats 3200000 in
theorem rputcard_any (id ver lab : Int) (f : List V3) (w : World) (hf : f.length = 8) (hlb : 0 ≤ lab) :
    Calls Try.prog 12 #[.agg (ccells id ver lab f).toArray] w fun e w' => e = .returned (.string (str (cbs id ver lab f))) ∧ Below w.heap.size w w' := by
  have HCK := Lib.hid (fun wx : World => rccheck_any id ver lab f wx hf)
  have HPLen : Hid ((ccells id ver lab f).length = 27) := Lib.hid (ccells_len id ver lab hf)
  have B0 := Blk.new w (ccells id ver lab f) 27
  obtain ⟨q0, q1, q2⟩ := B0.card
  obtain ⟨pc, hpc⟩ : ∃ pc, pc = ccells id ver lab f := ⟨_, rfl⟩
  rw [← hpc] at HCK B0 HPLen q0 q1 q2 ⊢
  have hb0 := (Below.refl w.heap.size w).alloc (Nat.le_refl _) (.cells pc.toArray 27)
  have RG := B0.wholeC
  have hu := Try.underlying27
  have HF := Lib.hid hf
  obtain ⟨ok, hok⟩ : ∃ b, b = ccheck id ver lab f := ⟨_, rfl⟩
  rw [← hok] at HCK
  cases ok
  · have HB : Hid (str (cbs id ver lab f) = ⟨#[]⟩) := Lib.hid (by unfold cbs; rw [if_pos hok.symm]; rfl)
    rw [HB.out]
    clear HB hok hpc q0 q1 q2 hf
    go_enter Try.func12, Try.ntmps12
    go_wp2_with (first
      | (refine wpList_load_mid rfl 27 (.tmp 1) rfl w.heap.size 0 rfl pc _ RG hu rfl (by rw [HPLen.out]; exact info_card) ?_)
      | fail)
    refine (HCK.out _).mono ?_
    rintro e w1 ⟨rfl, hb1⟩
    have hbw := hb0.trans (hb1.mono hb0.size)
    clear RG hb1 hb0
    go_wp2_with fail
    go_ret
    exact ⟨rfl, hbw⟩
  · have hlab : lab < 65536 := by
      have h := hok.symm
      unfold ccheck at h
      rw [Bool.and_eq_true] at h
      exact (of_decide_eq_true h.1).2.2.2.2
    have HB : Hid (cbs id ver lab f = (((enc (held id) ++ enc (held ver)) ++ enc (held lab)) ++ enc (held ((ofl (kl f 8)).toNat : Int))) ++ fbs (kl f 8) f) := Lib.hid (by unfold cbs; rw [if_neg (by rw [← hok]; simp)])
    obtain ⟨R, hR⟩ : ∃ R, R = str (cbs id ver lab f) := ⟨_, rfl⟩
    have HR := Lib.hid hR
    rw [← hR]
    have HPC := Lib.hid hpc
    clear hR hok hpc hf
    go_enter Try.func12, Try.ntmps12
    go_wp2_with (first
      | (refine wpList_load_mid rfl 27 (.tmp 1) rfl w.heap.size 0 rfl pc _ RG hu rfl (by rw [HPLen.out]; exact info_card) ?_)
      | fail)
    refine (HCK.out _).mono ?_
    rintro e w1 ⟨rfl, hb1⟩
    have hbw := hb0.trans (hb1.mono hb0.size)
    replace B0 := B0.later hb1
    clear RG hb1 hb0 q0 q1 q2 HCK
    go_wp2_with fail
    go_loopw [3, 4, 5] (fun mv sv i wr => ∃ k : Nat, k ≤ 8 ∧ i = .int .i64 k ∧ (∃ X : Nat, mv = .int .u32 (X : Int) ∧ Hid (X = (ofl (kl f k)).toNat)) ∧ (∃ t : ByteArray, sv = .string t ∧ Hid (t = str (fbs (kl f k) f)) ∧ t.size ≤ 40 * k) ∧ Blk wr w.heap.size pc ∧ Below w.heap.size w wr) (fun _ _ i _ => 8 - (intOf i).toNat)
    case atStart => exact ⟨0, by omega, rfl, ⟨0, rfl, Lib.hid rfl⟩, ⟨⟨#[]⟩, rfl, Lib.hid rfl, by decide⟩, B0, hbw⟩
    case round =>
      obtain ⟨k, hk, rfl, ⟨X, rfl, HX⟩, ⟨t, rfl, HT, ht⟩, D0, hbr⟩ := hrel
      by_cases hlt : k < 8
      · have hkf : k < f.length := by rw [HF.out]; exact hlt
        obtain ⟨l0, l1, l2⟩ := Blk.field (pre := [.int .i64 id, .int .i64 ver, .int .u32 lab]) (f := f) (g := w.heap.size) (w := wr) (by have := D0; rw [HPC.out] at this; exact this) 3 k rfl hkf
        have hg : f.getD k zv = f[k] := by simp [List.getD, hkf]
        obtain ⟨⟨v0, v1, v2⟩, hv⟩ : ∃ v, v = f[k] := ⟨_, rfl⟩
        rw [← hv] at l0 l1 l2 hg
        simp only at l0 l1 l2
        have hki : (k : Int) < 8 := by omega
        have hk0 : (0 : Int) ≤ (k : Int) := by omega
        by_cases hz : v0 = 0
        · have HK2 : Hid (kl f (k + 1) = kl f k) := Lib.hid (kl_skip f k (by rw [hg]; exact hz))
          have bz : (v0 != 0) = false := by simp [hz]
          clear hz hv hg hkf
          go_wp2_with fail
          go_roundw
          case rel => exact ⟨k + 1, by omega, by go_num, ⟨X, rfl, Lib.hid (by rw [HK2.out, HX.out])⟩, ⟨t, rfl, Lib.hid (by rw [HK2.out, HT.out]), by omega⟩, D0, hbr⟩
          case measure => simp [intOf]; omega
        · have HK2 : Hid (fbs (kl f (k + 1)) f = fbs (kl f k) f ++ vbs (v0, v1, v2)) := Lib.hid (by rw [← hg]; exact fbs_kl_succ f k (by rw [hg]; exact hz))
          have HX2 : Hid (ofl (kl f (k + 1)) = put (ofl (kl f k)) (k : Int)) := Lib.hid (ofl_kl_succ f k (by rw [hg]; exact hz))
          have bz : (v0 != 0) = true := by simp [hz]
          have HW := Lib.hid (fun wx : World => rwith_any (ofl (kl f k)) k (by omega) wx)
          rw [← HX.out] at HW
          obtain ⟨X2, hX2⟩ : ∃ X2, X2 = (put (ofl (kl f k)) (k : Int)).toNat := ⟨_, rfl⟩
          rw [← hX2] at HW
          have HPV := Lib.hid (fun wx : World => rputval_any v0 v1 v2 wx)
          obtain ⟨t2, ht2⟩ : ∃ t2, t2 = str (vbs (v0, v1, v2)) := ⟨_, rfl⟩
          rw [← ht2] at HPV
          have hz2 : t2.size ≤ 40 := by rw [ht2, str_size]; exact vbs_len _
          have HTT : Hid (t ++ t2 = str (fbs (kl f (k + 1)) f)) := Lib.hid (by rw [HK2.out, HT.out, ht2]; first | exact (str_append _ _).symm | exact str_append _ _)
          have HXX : Hid (X2 = (ofl (kl f (k + 1))).toNat) := Lib.hid (by rw [HX2.out, hX2])
          have hsz : (t ++ t2).size = t.size + t2.size := by simp
          have HSZ := Lib.hid hsz
          clear hz hv hg hkf ht2 hX2 hsz
          go_wp2_with fail
          refine (HW.out _).mono ?_
          rintro e w2 ⟨rfl, rfl⟩
          go_wp2_with fail
          refine (HPV.out _).mono ?_
          rintro e w2 ⟨rfl, hb2⟩
          have D2 := D0.later hb2
          have hbr2 := hbr.trans (hb2.mono hbr.size)
          clear D0 hb2 hbr l0 l1 l2
          go_wp2_with fail
          go_roundw
          case rel => exact ⟨k + 1, by omega, by go_num, ⟨X2, rfl, HXX⟩, ⟨t ++ t2, rfl, HTT, by rw [HSZ.out]; omega⟩, D2, hbr2⟩
          case measure => simp [intOf]; omega
      · obtain rfl : k = 8 := by omega
        have c0 : ∀ kk : LW wr, kk.val.cell? ⟨w.heap.size, 0, none⟩ = some (.int .i64 id) := fun kk => (Blk.card (by have := D0.later kk.le; rw [HPC.out] at this; exact this)).1
        have c1 : ∀ kk : LW wr, kk.val.cell? ⟨w.heap.size, 1, none⟩ = some (.int .i64 ver) := fun kk => (Blk.card (by have := D0.later kk.le; rw [HPC.out] at this; exact this)).2.1
        have c2 : ∀ kk : LW wr, kk.val.cell? ⟨w.heap.size, 2, none⟩ = some (.int .u32 lab) := fun kk => (Blk.card (by have := D0.later kk.le; rw [HPC.out] at this; exact this)).2.2
        have HN1 := Lib.hid (fun wx : World => ref_num id wx)
        have HN2 := Lib.hid (fun wx : World => ref_num ver wx)
        have HN3 := Lib.hid (fun wx : World => ref_num lab wx)
        have HN4 := Lib.hid (fun wx : World => ref_num (X : Int) wx)
        obtain ⟨s1, hs1⟩ : ∃ s, s = str (enc (held id)) := ⟨_, rfl⟩
        obtain ⟨s2, hs2⟩ : ∃ s, s = str (enc (held ver)) := ⟨_, rfl⟩
        obtain ⟨s3, hs3⟩ : ∃ s, s = str (enc (held lab)) := ⟨_, rfl⟩
        obtain ⟨s4, hs4⟩ : ∃ s, s = str (enc (held (X : Int))) := ⟨_, rfl⟩
        have z1 : s1.size ≤ 6 := by rw [hs1, str_size]; exact held_len _
        have z2 : s2.size ≤ 6 := by rw [hs2, str_size]; exact held_len _
        have z3 : s3.size ≤ 6 := by rw [hs3, str_size]; exact held_len _
        have z4 : s4.size ≤ 6 := by rw [hs4, str_size]; exact held_len _
        have HRR : Hid (R = s1 ++ s2 ++ s3 ++ s4 ++ t) := Lib.hid (by
          rw [HR.out, HB.out, hs1, hs2, hs3, hs4, HT.out, HX.out]
          simp only [str_append])
        rw [← hs1] at HN1
        rw [← hs2] at HN2
        rw [← hs3] at HN3
        rw [← hs4] at HN4
        have hX32 : (X : Int) < 4294967296 := by rw [HX.out]; have := (ofl (kl f 8)).isLt; omega
        clear hs1 hs2 hs3 hs4 HX HT D0
        go_wp2_with fail
        refine wp_region_steady [] 47 (by kernel_rfl) (by kernel_rfl) (by kernel_rfl) (by rfl) ?_
        iterate 2 (refine wpG_quiet (by rfl) (by rfl) (by rfl) (fun K hK => ?_); go_big_quiet_op; refine hK _ ?_; clear hK K)
        refine wpG_call (by rfl) (by rfl) 31 #[.int .i64 id] (.string s1) (by intro _; simp [go_sem]) (by kernel_rfl) (fun w1 hl => HN1.out w1) ?_
        simp only [Act.put, List.setIfInBounds_toArray, List.set_cons_zero, List.set_cons_succ]
        iterate 2 (refine wpG_quiet (by rfl) (by rfl) (by rfl) (fun K hK => ?_); go_big_quiet_op; refine hK _ ?_; clear hK K)
        refine wpG_call (by rfl) (by rfl) 31 #[.int .i64 ver] (.string s2) (by intro _; simp [go_sem]) (by kernel_rfl) (fun w1 hl => HN2.out w1) ?_
        simp only [Act.put, List.setIfInBounds_toArray, List.set_cons_zero, List.set_cons_succ]
        iterate 4 (refine wpG_quiet (by rfl) (by rfl) (by rfl) (fun K hK => ?_); go_big_quiet_op; refine hK _ ?_; clear hK K)
        refine wpG_call (by rfl) (by rfl) 31 #[.int .i64 lab] (.string s3) (by intro _; simp [go_sem]) (by kernel_rfl) (fun w1 hl => HN3.out w1) ?_
        simp only [Act.put, List.setIfInBounds_toArray, List.set_cons_zero, List.set_cons_succ]
        iterate 3 (refine wpG_quiet (by rfl) (by rfl) (by rfl) (fun K hK => ?_); go_big_quiet_op; refine hK _ ?_; clear hK K)
        refine wpG_call (by rfl) (by rfl) 31 #[.int .i64 (X : Int)] (.string s4) (by intro _; simp [go_sem]) (by kernel_rfl) (fun w1 hl => HN4.out w1) ?_
        simp only [Act.put, List.setIfInBounds_toArray, List.set_cons_zero, List.set_cons_succ]
        iterate 4 (refine wpG_quiet (by rfl) (by rfl) (by rfl) (fun K hK => ?_); go_big_quiet_op; refine hK _ ?_; clear hK K)
        refine wpG_nil fun w2 hl _ => ?_
        have hbw2 := hbr.trans (hl.mono hbr.size)
        go_wp2_with fail
        go_ret
        exact ⟨by rw [HRR.out]; rfl, hbw2⟩
end Go.Proofs.Yticdpfjajkfheaa
