/- Pieces: the document's Join: what it returns. -/
import Derived.Test.YtgoebblcggdlgaaPieL
namespace Go.Proofs.Ytgoebblcggdlgaa
set_option linter.unusedVariables false
set_option linter.unusedSimpArgs false
open Go Go.RowKit OctM SumM

set_option maxRecDepth 100000 in
set_option maxHeartbeats 6400000 in
theorem rjoin_any (A : Option Addr) (n c : Nat) (l : List Pc) (w : World) (hn : l.length = n) (hN : n ≤ 4096) (hs : Sees w w.heap.size A (rws pcel l)) (hb : (bod l).length ≤ 65536) :
    Calls Try.prog 19 #[.slice A n c] w fun e w' => e = .returned (.tuple #[.string (str (joi l).1), .bool (joi l).2]) ∧ Below w.heap.size w w' := by
  have hu := Try.underlying23
  cases l with
  | nil =>
    obtain rfl : 0 = n := hn
    clear hs hb
    go_enter Try.func19, Try.ntmps19
    go_wp2_with fail
    exact bodyPost_ret (results_tmp2 rfl _ _ _) rfl ⟨rfl, Below.refl _ _⟩
  | cons p l' =>
    obtain ⟨l, hl⟩ : ∃ l, l = p :: l' := ⟨_, rfl⟩
    rw [← hl] at hs hb hn ⊢
    obtain ⟨a, ha⟩ : ∃ a, a = p.1 := ⟨_, rfl⟩
    obtain ⟨b, hb2⟩ : ∃ b, b = p.2.1 := ⟨_, rfl⟩
    obtain ⟨R, hR⟩ : ∃ R, R = bod l := ⟨_, rfl⟩
    obtain ⟨D, hD⟩ : ∃ D, D = decide (cutL a b R = l) := ⟨_, rfl⟩
    have HJ : Hid (joi l = if D = true then (R, true) else ([], false)) := Lib.hid (by
      rw [hD, hR, ha, hb2, hl]
      simp only [decide_eq_true_eq]
      rfl)
    have hpos : 0 < n := by rw [← hn, hl]; simp
    have hk0 : 0 < l.length := by rw [hn]; exact hpos
    have hp0 : l[0] = p := by simp only [hl]; rfl
    obtain ⟨b0, o0, rfl, hb0, hr0⟩ := sees_rw (pc_len _) hs (by decide : 0 < 5) 0 hk0
    rw [hp0] at hr0
    have HR0 := Lib.hid hr0
    rw [← hR] at hb
    have HRB := Lib.hid hR
    have HN := Lib.hid hn
    have HS := Lib.hid hs
    have HLT : Hid (∀ k, (bod (l.take k)).length ≤ 65536) := Lib.hid (fun k => Nat.le_trans (bod_take_le l k) (by rw [← hR]; exact hb))
    have HC := Lib.hid (fun wx => rcut_any a b R wx hb)
    have HE : Hid (∀ wx A3 c3, Sees wx wx.heap.size A3 (rws pcel (cutL a b R)) → Below w.heap.size w wx → Calls Try.prog 20 #[.slice A3 (cutL a b R).length c3, .slice (some ⟨b0, o0, none⟩) n c] wx fun e w' => e = .returned (.bool D) ∧ Below wx.heap.size wx w') := Lib.hid (fun wx A3 c3 h3 hl3 => by
      rw [hD]
      refine pieces_any A3 (some ⟨b0, o0, none⟩) _ c3 n c _ l wx rfl hn ?_ (by omega) h3 ((hs.below hl3).more hl3.size)
      unfold cutL
      split
      · rw [cutU_len]
        have := mn_le R.length
        omega
      · simp)
    obtain ⟨N2, hN2⟩ : ∃ N2, N2 = (cutL a b R).length := ⟨_, rfl⟩
    obtain ⟨X, hX⟩ : ∃ X, X = rws pcel (cutL a b R) := ⟨_, rfl⟩
    rw [← hN2, ← hX] at HC HE
    clear hN2 hX
    have HA0 : Hid (p.1 = a ∧ p.2.1 = b) := Lib.hid ⟨ha.symm, hb2.symm⟩
    have HB0 := Lib.hid hb0
    clear hl hR hD ha hb2 hn hs hr0 hk0 hp0 hb hb0
    have n0 : ((n : Int) == 0) = false := by rw [beq_eq_false_iff_ne]; omega
    go_enter Try.func19, Try.ntmps19
    go_wp2_with fail
    go_loopw [4, 5] (fun v i wr => ∃ k : Nat, k ≤ n ∧ i = .int .i64 (k : Int) ∧ v = .string (str (bod (l.take k))) ∧ Hid (Below w.heap.size w wr)) (fun _ i _ => n - (intOf i).toNat)
    case atStart => exact ⟨0, by omega, rfl, rfl, Lib.hid (Below.refl _ _)⟩
    case round =>
      obtain ⟨k, hk, rfl, rfl, HBR⟩ := hrel
      by_cases hlt : k < n
      · have d1 : decide ((k : Int) < (n : Int)) = true := decide_eq_true (by omega)
        have hkl : k < l.length := by rw [HN.out]; exact hlt
        obtain ⟨b1, o1, e1, hb1, hr1⟩ := sees_rw (pc_len _) (HS.out.below HBR.out) (by decide : 0 < 5) k hkl
        cases e1
        have HBT := Lib.hid (bod_take l k hkl)
        have h65 := HLT.out (k + 1)
        obtain ⟨u, hu2⟩ : ∃ u, u = l[k] := ⟨_, rfl⟩
        rw [← hu2] at hr1 HBT
        rw [HBT.out, List.length_append] at h65
        clear hu2
        have c4 : wr.cell? ⟨b0, o0 + k * 5 + 4, none⟩ = some (.string (str u.2.2.2.2)) := hr1 4 _ rfl
        have hz1 := str_size (bod (l.take k))
        have hz2 := str_size u.2.2.2.2
        have HSA : Hid (str (bod (l.take k)) ++ str u.2.2.2.2 = str (bod (l.take (k + 1)))) := Lib.hid (by rw [HBT.out, str_append])
        obtain ⟨s1, hs1⟩ : ∃ s1, s1 = str (bod (l.take k)) := ⟨_, rfl⟩
        obtain ⟨s2, hs2⟩ : ∃ s2, s2 = str u.2.2.2.2 := ⟨_, rfl⟩
        obtain ⟨m1, hm1⟩ : ∃ m, m = (bod (l.take k)).length := ⟨_, rfl⟩
        obtain ⟨m2, hm2⟩ : ∃ m, m = u.2.2.2.2.length := ⟨_, rfl⟩
        rw [← hs1] at hz1 HSA ⊢
        rw [← hs2] at hz2 HSA c4
        rw [← hm1] at hz1 h65
        rw [← hm2] at hz2 h65
        clear hs1 hs2 hm1 hm2 hr1
        go_wp2_with fail
        go_roundw
        case rel => exact ⟨k + 1, by omega, by go_num, by rw [← HSA.out], HBR⟩
        case measure => simp [intOf]; omega
      · obtain rfl : k = n := by omega
        have d1 : decide ((k : Int) < (k : Int)) = false := by simp
        have HTK : Hid (bod (l.take k) = R) := Lib.hid (by rw [List.take_of_length_le (by rw [HN.out]; omega), HRB.out])
        rw [HTK.out]
        obtain ⟨sR, hsR⟩ : ∃ sR, sR = str R := ⟨_, rfl⟩
        rw [← hsR] at HC ⊢
        have HSR := Lib.hid hsR
        have r0 : ∀ kk : LW wr, kk.val.cell? ⟨b0, o0, none⟩ = some (.int .i64 a) := fun kk => by
          have := (HBR.out.trans (kk.le.mono HBR.out.size)).cell (p := ⟨b0, o0, none⟩) HB0.out
          rw [this, ← HA0.out.1]
          have := HR0.out 0 _ rfl
          simpa using this
        have r1 : ∀ kk : LW wr, kk.val.cell? ⟨b0, o0 + 1, none⟩ = some (.int .i64 b) := fun kk => by
          have := (HBR.out.trans (kk.le.mono HBR.out.size)).cell (p := ⟨b0, o0 + 1, none⟩) HB0.out
          rw [this, ← HA0.out.2]
          have := HR0.out 1 _ rfl
          simpa using this
        clear hsR
        go_wp2_with fail
        refine wp_region_steady [(31, relRowN wr.heap.size 23 5 N2 X)] 36 (by kernel_rfl) (by kernel_rfl) (by kernel_rfl) (by rfl) ?_
        iterate 2 (refine wpG_quiet (by rfl) (by rfl) (by rfl) (fun K hK => ?_); go_big_quiet_op; refine hK _ ?_; clear hK K)
        iterate 2 (refine wpG_quiet (by rfl) (by rfl) (by rfl) (fun K hK => ?_); go_big_quiet_op; refine hK _ ?_; clear hK K)
        iterate 4 (refine wpG_quiet (by rfl) (by rfl) (by rfl) (fun K hK => ?_); go_big_quiet_op; refine hK _ ?_; clear hK K)
        iterate 1 (refine wpG_quiet (by rfl) (by rfl) (by rfl) (fun K hK => ?_); go_big_quiet_op; refine hK _ ?_; clear hK K)
        refine wpG_calls (relRowN wr.heap.size 23 5 N2 X) (by rfl) (by rfl) 23 #[.int .i64 a, .int .i64 b, .string sR] (by intro _; simp [go_sem]) (fun wx hl => (HC.out wx).mono ?_) ?_
        · rintro e w2 ⟨A2, c2, rfl, hr2, hb2⟩
          exact ⟨_, rfl, hb2, row_lower hr2 hl.1.size⟩
        rintro _ ⟨wy, _, _, hry⟩
        obtain ⟨A3, c3, rfl⟩ := row_form hry
        clear hry
        simp only [Act.put, List.setIfInBounds_toArray, List.set_cons_zero, List.set_cons_succ]
        iterate 1 (refine wpG_quiet (by rfl) (by rfl) (by rfl) (fun K hK => ?_); go_big_quiet_op; refine hK _ ?_; clear hK K)
        refine wpG_call (by rfl) (by rfl) 20 #[.slice A3 N2 c3, .slice (some ⟨b0, o0, none⟩) k c] (.bool D) (by intro _; simp [go_sem]) (by kernel_rfl) (fun wx hl => ?_) ?_
        · have hr5 := hl.2 31 _ (by simp [Op.operands, Call.operands]) rfl (by intro h; cases h)
          exact HE.out wx A3 c3 (row_sees hr5) (HBR.out.trans (hl.1.mono HBR.out.size))
        simp only [Act.put, List.setIfInBounds_toArray, List.set_cons_zero, List.set_cons_succ]
        iterate 1 (refine wpG_quiet (by rfl) (by rfl) (by rfl) (fun K hK => ?_); go_big_quiet_op; refine hK _ ?_; clear hK K)
        refine wpG_nil fun wx hl _ => ?_
        have hb9 := Lib.hid (HBR.out.trans (hl.mono HBR.out.size))
        clear r0 r1 hl
        cases D with
        | true =>
          go_wp2_with fail
          exact bodyPost_ret (results_tmp2 rfl _ _ _) rfl ⟨by rw [HJ.out, HSR.out]; rfl, hb9.out⟩
        | false =>
          go_wp2_with fail
          exact bodyPost_ret (results_tmp2 rfl _ _ _) rfl ⟨by rw [HJ.out]; rfl, hb9.out⟩
end Go.Proofs.Ytgoebblcggdlgaa
