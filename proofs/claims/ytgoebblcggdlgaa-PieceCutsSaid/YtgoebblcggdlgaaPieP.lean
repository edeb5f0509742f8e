/- PieceCuts: the law's walk. -/
import Derived.Test.YtgoebblcggdlgaaPieO
namespace Go.Proofs.Ytgoebblcggdlgaa
set_option linter.unusedVariables false
set_option linter.unusedSimpArgs false
open Go Go.RowKit OctM SumM

theorem bod_len (l : List Pc) (k : Nat) (h : ∀ p ∈ l, p.2.2.2.2.length ≤ k) : (bod l).length ≤ l.length * k := by
  induction l with
  | nil => simp [bod]
  | cons p l ih =>
    have h1 := ih (fun x hx => h x (List.mem_cons_of_mem _ hx))
    have h2 := h p List.mem_cons_self
    unfold bod at *
    rw [List.flatMap_cons, List.length_append, List.length_cons, Nat.succ_mul]
    omega

set_option maxRecDepth 100000 in
set_option maxHeartbeats 6400000 in
theorem walk_cuts (a b : Int) (r : List UInt8) (A : Option Addr) (n c : Nat) (l : List Pc) (w : World) (hr : r.length ≤ maxLen) (hn : l.length = n) (hc : n ≤ c) (hcm : c ≤ maxLen) (hl : ∀ p ∈ l, p.2.2.2.2.length ≤ maxLen) (hs : Sees w w.heap.size A (rws pcel l)) :
    Calls Try.prog 4 #[.agg #[.int .i64 a, .int .i64 b], .string (str r), .slice A n c] w fun e w' => e = .returned (.bool true) ∧ Below w.heap.size w w' := by
  have hz := str_size r
  obtain ⟨m, hm⟩ : ∃ m, m = r.length := ⟨_, rfl⟩
  rw [← hm] at hz hr
  have HM := Lib.hid hm
  obtain ⟨sr, hsr⟩ : ∃ sr, sr = str r := ⟨_, rfl⟩
  rw [← hsr] at hz ⊢
  have HSR := Lib.hid hsr
  have HN := Lib.hid hn
  have HB0 := Lib.hid ((Below.refl w.heap.size w).alloc (Nat.le_refl _) (.cells #[.int .i64 a, .int .i64 b] 38))
  have HS := Lib.hid (hs.alloc (Nat.le_refl _) (.cells #[.int .i64 a, .int .i64 b] 38))
  have hnm : n ≤ maxLen := Nat.le_trans hc hcm
  unfold maxLen at hr hnm hl
  have HLM := Lib.hid hl
  clear hm hsr hn hs hc hcm hl
  by_cases h6 : m ≤ 600
  · have d6 : decide ((600 : Int) < (m : Int)) = false := decide_eq_false (by omega)
    by_cases h2 : n ≤ 20
    · have d2 : decide ((20 : Int) < (n : Int)) = false := decide_eq_false (by omega)
      go_enter Try.func4, Try.ntmps4
      go_wp2_with fail
      go_loop [7] (fun i => ∃ k : Nat, k ≤ n ∧ i = .int .i64 (k : Int) ∧ Hid (∀ p ∈ l.take k, p.2.2.2.2.length ≤ 200)) (fun i => n - (intOf i).toNat)
      case atStart => exact ⟨0, by omega, rfl, Lib.hid (by simp)⟩
      case round =>
        obtain ⟨k, hk, rfl, HK⟩ := hrel
        by_cases hlt : k < n
        · have d1 : decide ((k : Int) < (n : Int)) = true := decide_eq_true (by omega)
          have hkl : k < l.length := by rw [HN.out]; exact hlt
          obtain ⟨b0, o0, rfl, hb0, hr0⟩ := sees_rw (pc_len _) HS.out (by decide : 0 < 5) k hkl
          have HK1 : Hid (l[k].2.2.2.2.length ≤ 200 → ∀ p ∈ l.take (k + 1), p.2.2.2.2.length ≤ 200) := Lib.hid (fun h p hp => by
            rw [List.take_succ_eq_append_getElem hkl] at hp
            rcases List.mem_append.1 hp with h1 | h1
            · exact HK.out p h1
            · simp only [List.mem_singleton] at h1
              rw [h1]
              exact h)
          have hlu := HLM.out _ (List.getElem_mem hkl)
          obtain ⟨u, hu⟩ : ∃ u, u = l[k] := ⟨_, rfl⟩
          rw [← hu] at hr0 HK1 hlu
          have c4 := hr0 4 (.string (str u.2.2.2.2)) rfl
          have hzu := str_size u.2.2.2.2
          obtain ⟨su, hsu⟩ : ∃ su, su = str u.2.2.2.2 := ⟨_, rfl⟩
          obtain ⟨j, hj⟩ : ∃ j, j = u.2.2.2.2.length := ⟨_, rfl⟩
          rw [← hsu] at hzu c4
          rw [← hj] at hzu HK1 hlu
          clear hu hsu hj hr0
          by_cases h20 : j ≤ 200
          · have d3 : decide ((200 : Int) < (j : Int)) = false := decide_eq_false (by omega)
            go_wp2_with fail
            go_round
            case rel => exact ⟨k + 1, by omega, by go_num, Lib.hid (HK1.out h20)⟩
            case measure => simp [intOf]; omega
          · have d3 : decide ((200 : Int) < (j : Int)) = true := decide_eq_true (by omega)
            go_wp2_with fail
            refine (awake_any _).mono ?_
            rintro e w9 ⟨rfl, rfl⟩
            go_wp2_with fail
            go_ret
            exact ⟨rfl, HB0.out⟩
        · obtain rfl : k = n := by omega
          have d1 : decide ((k : Int) < (k : Int)) = false := by simp
          have HBOD : Hid ((bod l).length ≤ 65536) := Lib.hid (by
            have h1 := HK.out
            rw [List.take_of_length_le (by rw [HN.out]; omega)] at h1
            have h2 := bod_len l 200 h1
            rw [HN.out] at h2
            omega)
          obtain ⟨W, hW⟩ : ∃ W, W = w.alloc (.cells #[.int .i64 a, .int .i64 b] 38) := ⟨_, rfl⟩
          rw [← hW] at HS HB0
          have BQ := Blk.new w [.int .i64 a, .int .i64 b] 38
          rw [show w.alloc (.cells [Value.int .i64 a, .int .i64 b].toArray 38) = W from hW.symm] at BQ
          have HLI := Lib.hid (list_any A k c l W HN.out (by omega) (HS.out.more (by have := HB0.out.size; omega)))
          have HJ : Hid (∀ wx A2 c2, Sees wx wx.heap.size A2 (rws pcel l) → Calls Try.prog 17 #[.slice A2 k c2] wx fun e w' => e = .returned (.tuple #[.string (str (joi l).1), .bool (joi l).2]) ∧ Below wx.heap.size wx w') := Lib.hid (fun wx A2 c2 h => join_any A2 k c2 l wx HN.out (by omega) h HBOD.out)
          have HRJ : Hid (∀ wx, Below w.heap.size W wx → Calls Try.prog 19 #[.slice A k c] wx fun e w' => e = .returned (.tuple #[.string (str (joi l).1), .bool (joi l).2]) ∧ Below wx.heap.size wx w') := Lib.hid (fun wx hx => rjoin_any A k c l wx HN.out (by omega) ((HS.out.below hx).more (by have := hx.size; have := HB0.out.size; omega)) HBOD.out)
          obtain ⟨sj, hsj⟩ : ∃ sj, sj = str (joi l).1 := ⟨_, rfl⟩
          obtain ⟨jj, hjj⟩ : ∃ jj, jj = (joi l).2 := ⟨_, rfl⟩
          rw [← hsj, ← hjj] at HJ HRJ
          have HC1 := Lib.hid (fun wx => cut_any a b r wx (by rw [← HM.out]; omega))
          have HC2 := Lib.hid (fun wx => rcut_any a b r wx (by rw [← HM.out]; omega))
          have HLN : Hid ((cutL a b r).length ≤ 65536) := Lib.hid (by
            unfold cutL
            split
            · rw [cutU_len]
              have := mn_le r.length
              rw [← HM.out] at *
              omega
            · simp)
          have HBK := Lib.hid (fun wx A2 c2 (h : Sees wx wx.heap.size A2 (rws pcel (cutL a b r))) => back_any A2 _ c2 (cutL a b r) wx rfl HLN.out h)
          have HPS : Hid (∀ wx A2 c2 A3 c3, Sees wx wx.heap.size A2 (rws pcel (cutL a b r)) → Sees wx wx.heap.size A3 (rws pcel (cutL a b r)) → Calls Try.prog 20 #[.slice A2 (cutL a b r).length c2, .slice A3 (cutL a b r).length c3] wx fun e w' => e = .returned (.bool true) ∧ Below wx.heap.size wx w') := Lib.hid (fun wx A2 c2 A3 c3 h2 h3 => by
            have := pieces_any A2 A3 _ c2 _ c3 (cutL a b r) (cutL a b r) wx rfl rfl (by have := HLN.out; omega) (by have := HLN.out; omega) h2 h3
            rw [decide_eq_true rfl] at this
            exact this)
          rw [← HSR.out] at HC1 HC2
          obtain ⟨N2, hN2⟩ : ∃ N2, N2 = (cutL a b r).length := ⟨_, rfl⟩
          obtain ⟨X, hX⟩ : ∃ X, X = rws pcel (cutL a b r) := ⟨_, rfl⟩
          rw [← hN2, ← hX] at HC1 HC2 HBK HPS
          clear hN2 hX hsj hjj HLN
          have HW := Lib.hid hW
          have BQ := Lib.hid BQ
          clear hW
          go_wp2_with fail
          rw [← HW.out]
          refine HLI.out.mono ?_
          rintro e w1 ⟨A1, c1, rfl, hr1, hb1⟩
          have HX1 := Lib.hid hb1
          have HR1 := Lib.hid (row_sees hr1)
          clear hr1 hb1 HLI
          go_wp2_with fail
          refine (HJ.out w1 A1 c1 HR1.out).mono ?_
          rintro e w2 ⟨rfl, hb2⟩
          have HX2 := Lib.hid (HX1.out.trans (hb2.mono HX1.out.size))
          clear hb2
          go_wp2_with fail
          refine (HRJ.out w2 (HX2.out.mono (by have := HB0.out.size; omega))).mono ?_
          rintro e w3 ⟨rfl, hb3⟩
          have HX3 := Lib.hid (HX2.out.trans (hb3.mono HX2.out.size))
          have BQ3 := BQ.out.later HX3.out
          have HB3 := Lib.hid (HB0.out.trans (HX3.out.mono HB0.out.size))
          clear hb3 HRJ HJ HX1 HX2 HX3 BQ HR1
          have c0 : ∀ kk : LW w3, kk.val.cell? ⟨w.heap.size, 0, none⟩ = some (.int .i64 a) := fun kk => (BQ3.later kk.le).cell (j := 0) rfl
          have c1 : ∀ kk : LW w3, kk.val.cell? ⟨w.heap.size, 1, none⟩ = some (.int .i64 b) := fun kk => (BQ3.later kk.le).cell (j := 1) rfl
          clear BQ3
          go_wp2_with fail
          refine wp_region_steady [(51, relRowN w3.heap.size 25 5 N2 X), (52, relRowN w3.heap.size 23 5 N2 X), (58, relRowN w3.heap.size 23 5 N2 X)] 73 (by kernel_rfl) (by kernel_rfl) (by kernel_rfl) (by rfl) ?_
          iterate 5 (refine wpG_quiet (by rfl) (by rfl) (by rfl) (fun K hK => ?_); go_big_quiet_op; refine hK _ ?_; clear hK K)
          refine wpG_calls (relRowN w3.heap.size 25 5 N2 X) (by rfl) (by rfl) 22 #[.int .i64 a, .int .i64 b, .string sr] (by intro _; simp [go_sem]) (fun wx hl => ?_) ?_
          · refine (HC1.out wx).mono ?_
            rintro e w2 ⟨A2, c2, rfl, hr2, hb2⟩
            exact ⟨_, rfl, hb2, row_lower hr2 hl.1.size⟩
          rintro _ ⟨wy, _, _, hry⟩
          obtain ⟨A5, c5, rfl⟩ := row_form hry
          clear hry
          simp only [Act.put, List.setIfInBounds_toArray, List.set_cons_zero, List.set_cons_succ]
          refine wpG_calls (relRowN w3.heap.size 23 5 N2 X) (by rfl) (by rfl) 21 #[.slice A5 N2 c5] (by intro _; simp [go_sem]) (fun wx hl => ?_) ?_
          · have hr5 := hl.2 51 _ (by simp [Op.operands, Call.operands]) rfl (by intro h; cases h)
            refine (HBK.out wx A5 c5 (row_sees hr5)).mono ?_
            rintro e w2 ⟨A2, c2, rfl, hr2, hb2⟩
            exact ⟨_, rfl, hb2, row_lower hr2 hl.1.size⟩
          rintro _ ⟨wy, _, _, hry⟩
          obtain ⟨A6, c6, rfl⟩ := row_form hry
          clear hry
          simp only [Act.put, List.setIfInBounds_toArray, List.set_cons_zero, List.set_cons_succ]
          iterate 5 (refine wpG_quiet (by rfl) (by rfl) (by rfl) (fun K hK => ?_); go_big_quiet_op; refine hK _ ?_; clear hK K)
          refine wpG_calls (relRowN w3.heap.size 23 5 N2 X) (by rfl) (by rfl) 23 #[.int .i64 a, .int .i64 b, .string sr] (by intro _; simp [go_sem]) (fun wx hl => ?_) ?_
          · refine (HC2.out wx).mono ?_
            rintro e w2 ⟨A2, c2, rfl, hr2, hb2⟩
            exact ⟨_, rfl, hb2, row_lower hr2 hl.1.size⟩
          rintro _ ⟨wy, _, _, hry⟩
          obtain ⟨A7, c7, rfl⟩ := row_form hry
          clear hry
          simp only [Act.put, List.setIfInBounds_toArray, List.set_cons_zero, List.set_cons_succ]
          refine wpG_call (by rfl) (by rfl) 20 #[.slice A6 N2 c6, .slice A7 N2 c7] (.bool true) (by intro _; simp [go_sem]) (by kernel_rfl) (fun wx hl => ?_) ?_
          · have hr6 := hl.2 52 _ (by simp [Op.operands, Call.operands]) rfl (by intro h; cases h)
            have hr7 := hl.2 58 _ (by simp [Op.operands, Call.operands]) rfl (by intro h; cases h)
            exact HPS.out wx A6 c6 A7 c7 (row_sees hr6) (row_sees hr7)
          simp only [Act.put, List.setIfInBounds_toArray, List.set_cons_zero, List.set_cons_succ]
          iterate 1 (refine wpG_quiet (by rfl) (by rfl) (by rfl) (fun K hK => ?_); go_big_quiet_op; refine hK _ ?_; clear hK K)
          iterate 2 (refine wpG_quiet (by rfl) (by rfl) (by rfl) (fun K hK => ?_); go_big_quiet_op; refine hK _ ?_; clear hK K)
          refine wpG_run (by rfl) (by rfl) (.bool true) (fun wx hl => by simp [go_sem]) ?_
          simp only [Act.put, List.setIfInBounds_toArray, List.set_cons_zero, List.set_cons_succ]
          iterate 2 (refine wpG_quiet (by rfl) (by rfl) (by rfl) (fun K hK => ?_); go_big_quiet_op; refine hK _ ?_; clear hK K)
          iterate 2 (refine wpG_quiet (by rfl) (by rfl) (by rfl) (fun K hK => ?_); go_big_quiet_op; refine hK _ ?_; clear hK K)
          refine wpG_run (by rfl) (by rfl) (.bool true) (fun wx hl => by simp [go_sem]) ?_
          simp only [Act.put, List.setIfInBounds_toArray, List.set_cons_zero, List.set_cons_succ]
          iterate 2 (refine wpG_quiet (by rfl) (by rfl) (by rfl) (fun K hK => ?_); go_big_quiet_op; refine hK _ ?_; clear hK K)
          refine wpG_call (by rfl) (by rfl) 6 #[] (.bool true) (by intro _; simp [go_sem]) (by kernel_rfl) (fun wx hl => awk_any wx) ?_
          simp only [Act.put, List.setIfInBounds_toArray, List.set_cons_zero, List.set_cons_succ]
          iterate 2 (refine wpG_quiet (by rfl) (by rfl) (by rfl) (fun K hK => ?_); go_big_quiet_op; refine hK _ ?_; clear hK K)
          refine wpG_nil fun wx hl _ => ?_
          have hb9 := Lib.hid (HB3.out.trans (hl.mono HB3.out.size))
          clear c0 c1 hl
          go_wp2_with fail
          go_ret
          exact ⟨rfl, hb9.out⟩
    · have d2 : decide ((20 : Int) < (n : Int)) = true := decide_eq_true (by omega)
      go_enter Try.func4, Try.ntmps4
      go_wp2_with fail
      refine (awake_any _).mono ?_
      rintro e w9 ⟨rfl, rfl⟩
      go_wp2_with fail
      go_ret
      exact ⟨rfl, HB0.out⟩
  · have d6 : decide ((600 : Int) < (m : Int)) = true := decide_eq_true (by omega)
    go_enter Try.func4, Try.ntmps4
    go_wp2_with fail
    refine (awake_any _).mono ?_
    rintro e w9 ⟨rfl, rfl⟩
    go_wp2_with fail
    go_ret
    exact ⟨rfl, HB0.out⟩
end Go.Proofs.Ytgoebblcggdlgaa
