/- The document's Less and Holds: what each returns. -/
import Derived.Test.YtgdidamjgaegkaaDoorValG
import Derived.Lib.IndexMore
import Derived.Lib.IndexBytes
namespace Go.Proofs.YtgdidamjgaegkaaDoor
set_option linter.unusedVariables false
open Go Go.RowKit BitM ValM

set_option maxRecDepth 100000 in
set_option maxHeartbeats 1600000 in
theorem rless_any (a b : V3) (w : World) (hsa : a.2.2.size ≤ 1000) (hsb : b.2.2.size ≤ 1000) : Calls Tryd.prog 40 #[.agg (vcells a).toArray, .agg (vcells b).toArray] w fun e w' => e = .returned (.bool (vless a b)) ∧ Below w.heap.size w w' := by
  have HC := Lib.hid (fun wx : World => rcompare_any a b wx hsa hsb)
  have hu := Tryd.underlying43
  obtain ⟨W, hW, B0, B1, hb⟩ := two_boxes a b w
  have R0 := B0.valR
  have R1 := B1.valR
  have p0 : W.cell? ⟨w.heap.size, 0, none⟩ = some (.int .i64 a.1) := B0.val.1
  have q0 : W.cell? ⟨w.heap.size + 1, 0, none⟩ = some (.int .i64 b.1) := B1.val.1
  clear B0 B1
  obtain ⟨ca, hca⟩ : ∃ ca, ca = (vcells a).toArray := ⟨_, rfl⟩
  obtain ⟨cb, hcb⟩ : ∃ cb, cb = (vcells b).toArray := ⟨_, rfl⟩
  rw [← hca, ← hcb] at hW
  rw [← hca, ← hcb]
  have HW := Lib.hid hW
  clear hca hcb hW
  rw [HW.out] at R0 R1 p0 q0 hb
  have HV : Hid (vless a b = if a.1 = b.1 ∧ (a.1 = 1 ∨ a.1 = 2) then decide (vcmp a b < 0) else false) := Lib.hid rfl
  obtain ⟨v, hv⟩ : ∃ v, v = vless a b := ⟨_, rfl⟩
  rw [← hv] at HV ⊢
  obtain ⟨r, hr⟩ : ∃ r, r = vcmp a b := ⟨_, rfl⟩
  rw [← hr] at HC HV
  obtain ⟨k, hk⟩ : ∃ k, k = a.1 := ⟨_, rfl⟩
  obtain ⟨k', hk'⟩ : ∃ k', k' = b.1 := ⟨_, rfl⟩
  rw [← hk] at p0 HV
  rw [← hk'] at q0 HV
  clear hv hr hk hk' HW
  have hb2 := Lib.hid hb
  clear hb
  by_cases h1 : k = k'
  · subst h1
    by_cases h2 : k = 1 ∨ k = 2
    · have HL : Hid (v = decide (r < 0)) := Lib.hid (by rw [HV.out, if_pos ⟨rfl, h2⟩])
      clear HV
      rcases h2 with rfl | rfl
      all_goals
        go_enter Tryd.func40, Tryd.ntmps40
        go_wp2_with (first
          | (refine wpList_load_g (by rfl) 43 (.tmp 2) rfl w.heap.size 0 rfl (vcells a) _ R0 hu rfl info_val ?_)
          | (refine wpList_load_g (by rfl) 43 (.tmp 3) rfl (w.heap.size + 1) 0 rfl (vcells b) _ R1 hu rfl info_val ?_))
        refine (HC.out _).mono ?_
        rintro e w1 ⟨rfl, hb3⟩
        have hb4 := hb2.out.trans (hb3.mono hb2.out.size)
        clear R0 R1 p0 q0
        go_wp2_with fail
        go_ret
        exact ⟨by rw [HL.out]; rfl, hb4⟩
    · have HL : Hid (v = false) := Lib.hid (by rw [HV.out, if_neg (fun h => h2 h.2)])
      have b1 : (k == 1) = false := by simp; intro e; exact h2 (.inl e)
      have b2 : (k == 2) = false := by simp; intro e; exact h2 (.inr e)
      clear h2 HV
      go_enter Tryd.func40, Tryd.ntmps40
      go_wp2_with fail
      go_ret
      exact ⟨by rw [HL.out]; rfl, hb2.out⟩
  · have HL : Hid (v = false) := Lib.hid (by rw [HV.out, if_neg (fun h => h1 h.1)])
    have b1 : (k == k') = false := by simpa using h1
    clear h1 HV
    go_enter Tryd.func40, Tryd.ntmps40
    go_wp2_with fail
    go_ret
    exact ⟨by rw [HL.out]; rfl, hb2.out⟩

theorem contains_hit {s t : List UInt8} {k : Nat} (hk : k ≤ s.length) (h : Lib.occAt s t k = true) (hn : ∀ j, j < k → Lib.occAt s t j = false) : Lib.contains s t = true := by
  unfold Lib.contains
  rw [Lib.index_first hk h hn, decide_eq_true_eq]
  omega
theorem contains_none {s t : List UInt8} {k : Nat} (hk : s.length < k + t.length) (hn : ∀ j, j < k → Lib.occAt s t j = false) : Lib.contains s t = false := by
  unfold Lib.contains
  rw [Lib.index_none (s := s) (sub := t) (fun j hj => by
    rcases Nat.lt_or_ge j k with h | h
    · exact hn j h
    · cases ho : Lib.occAt s t j
      · rfl
      · rcases Lib.occAt_room ho with h2 | h2
        · omega
        · rw [h2] at hk; simp at hk; omega)]
  rfl

set_option maxRecDepth 100000 in
set_option maxHeartbeats 3200000 in
theorem rholds_any (a b : V3) (w : World) (hs : a.2.2.size ≤ 1000) (hs' : b.2.2.size ≤ 1000) :
    Calls Tryd.prog 44 #[.agg (vcells a).toArray, .agg (vcells b).toArray] w fun e w' => e = .returned (.bool (vholds a b)) ∧ Below w.heap.size w w' := by
  obtain ⟨k, n, s⟩ := a
  obtain ⟨k', n', s'⟩ := b
  simp only at hs hs'
  have HF1 := Lib.hid (fun wx : World => rfold_any s wx hs)
  have HF2 := Lib.hid (fun wx : World => rfold_any s' wx hs')
  have HV : Hid (vholds (k, n, s) (k', n', s') = (decide (k = 2) && decide (k' = 2) && Lib.contains (fold s.data.toList) (fold s'.data.toList))) := Lib.hid rfl
  obtain ⟨v, hv⟩ : ∃ v, v = vholds (k, n, s) (k', n', s') := ⟨_, rfl⟩
  rw [← hv] at HV ⊢
  obtain ⟨cn, hcn⟩ : ∃ cn, cn = Lib.contains (fold s.data.toList) (fold s'.data.toList) := ⟨_, rfl⟩
  rw [← hcn] at HV
  have HCN := Lib.hid hcn
  have hz : (str (fold s.data.toList)).size ≤ 1000 := by rw [str_size]; unfold fold; rw [List.length_map]; simpa using hs
  have hz' : (str (fold s'.data.toList)).size ≤ 1000 := by rw [str_size]; unfold fold; rw [List.length_map]; simpa using hs'
  have HU1 : Hid ((str (fold s.data.toList)).data.toList = fold s.data.toList) := Lib.hid rfl
  have HU2 : Hid ((str (fold s'.data.toList)).data.toList = fold s'.data.toList) := Lib.hid rfl
  obtain ⟨u, hu⟩ : ∃ u, u = str (fold s.data.toList) := ⟨_, rfl⟩
  rw [← hu] at HF1 hz HU1
  obtain ⟨u', hu'⟩ : ∃ u', u' = str (fold s'.data.toList) := ⟨_, rfl⟩
  rw [← hu'] at HF2 hz' HU2
  rw [← HU1.out, ← HU2.out] at HCN
  obtain ⟨W, hW, B0, B1, hb⟩ := two_boxes (k, n, s) (k', n', s') w
  obtain ⟨p0, _, p2⟩ := B0.val
  obtain ⟨q0, _, q2⟩ := B1.val
  obtain ⟨ca, hca⟩ : ∃ ca, ca = (vcells (k, n, s)).toArray := ⟨_, rfl⟩
  obtain ⟨cb, hcb⟩ : ∃ cb, cb = (vcells (k', n', s')).toArray := ⟨_, rfl⟩
  rw [← hca, ← hcb] at hW
  rw [← hca, ← hcb]
  have HW := Lib.hid hW
  clear hv hcn hu hu' hca hcb hW hs hs' HU1 HU2
  have P2 : ∀ kk : LW W, kk.val.cell? ⟨w.heap.size, 2, none⟩ = some (.string s) := fun kk => (B0.later kk.le).val.2.2
  have Q2 : ∀ kk : LW W, kk.val.cell? ⟨w.heap.size + 1, 2, none⟩ = some (.string s') := fun kk => (B1.later kk.le).val.2.2
  rw [HW.out] at p0 p2 q0 q2 hb P2 Q2
  clear B0 B1 HW
  have hb2 := Lib.hid hb
  clear hb
  by_cases hk : k = 2
  · subst hk
    by_cases hk' : k' = 2
    · subst hk'
      have HL : Hid (v = cn) := Lib.hid (by rw [HV.out]; simp)
      clear HV
      go_enter Tryd.func44, Tryd.ntmps44
      go_wp2_with fail
      refine wp_region_steady [] 40 (by kernel_rfl) (by kernel_rfl) (by kernel_rfl) (by rfl) ?_
      iterate 2 (refine wpG_quiet (by rfl) (by rfl) (by rfl) (fun K hK => ?_); go_big_quiet_op; refine hK _ ?_; clear hK K)
      refine wpG_call (by rfl) (by rfl) 42 #[.string s] (.string u) (by intro _; simp [go_sem]) (by kernel_rfl) (fun w1 hl => (HF1.out w1)) ?_
      simp only [Act.put, List.setIfInBounds_toArray, List.set_cons_zero, List.set_cons_succ]
      iterate 2 (refine wpG_quiet (by rfl) (by rfl) (by rfl) (fun K hK => ?_); go_big_quiet_op; refine hK _ ?_; clear hK K)
      refine wpG_call (by rfl) (by rfl) 42 #[.string s'] (.string u') (by intro _; simp [go_sem]) (by kernel_rfl) (fun w1 hl => (HF2.out w1)) ?_
      simp only [Act.put, List.setIfInBounds_toArray, List.set_cons_zero, List.set_cons_succ]
      iterate 2 (refine wpG_quiet (by rfl) (by rfl) (by rfl) (fun K hK => ?_); go_big_quiet_op; refine hK _ ?_; clear hK K)
      refine wpG_nil fun w1 hl _ => ?_
      replace hb2 := Lib.hid (hb2.out.trans (hl.mono hb2.out.size))
      clear p0 p2 q0 q2 P2 Q2 hl
      go_wp2_with fail
      go_loop [7] (fun i => ∃ k : Nat, k ≤ 1001 ∧ k ≤ u.size + 1 ∧ i = .int .i64 k ∧ Hid (∀ j, j < k → Lib.occAt u.data.toList u'.data.toList j = false)) (fun i => 1001 - (intOf i).toNat)
      case atStart => exact ⟨0, by omega, by omega, rfl, Lib.hid (fun j hj => absurd hj (by omega))⟩
      case round =>
        obtain ⟨k, hk, hk2, rfl, HO⟩ := hrel
        have HS1 : Hid (u.data.toList.length = u.size) := Lib.hid (by simp)
        have HS2 : Hid (u'.data.toList.length = u'.size) := Lib.hid (by simp)
        by_cases hg : k + u'.size ≤ u.size
        · have hg1 : (k : Int) ≤ (u.size : Int) - (u'.size : Int) := by omega
          have hb1 : (k : Int) + (u'.size : Int) ≤ (u.size : Int) := by omega
          have hb3 : (k : Int) ≤ (k : Int) + (u'.size : Int) := by omega
          have hp := Lib.occ_of_piece u u' k hg
          have hpz : ((k : Int) + (u'.size : Int)).toNat = k + u'.size := by omega
          cases ho : Lib.occAt u.data.toList u'.data.toList k
          · rw [ho] at hp
            have hp2 := hp.symm
            have hp3 := hp2
            rw [← hpz] at hp3
            clear hpz
            have HO2 := Lib.hid ho
            clear hp ho
            go_wp2_with fail
            go_round
            case rel =>
              refine ⟨k + 1, by omega, by omega, by go_num, Lib.hid (fun j hj => ?_)⟩
              rcases Nat.lt_succ_iff_lt_or_eq.1 hj with h | h
              · exact HO.out j h
              · rw [h]; exact HO2.out
            case measure => simp [intOf]; omega
          · rw [ho] at hp
            have hp2 := hp.symm
            have hp3 := hp2
            rw [← hpz] at hp3
            clear hpz
            have HX : Hid (cn = true) := Lib.hid (by rw [HCN.out]; exact contains_hit (by rw [HS1.out]; omega) ho HO.out)
            clear hp ho
            go_wp2_with fail
            go_ret
            exact ⟨by rw [HL.out, HX.out]; rfl, hb2.out⟩
        · have hg1 : ¬ (k : Int) ≤ (u.size : Int) - (u'.size : Int) := by omega
          have HX : Hid (cn = false) := Lib.hid (by rw [HCN.out]; exact contains_none (by rw [HS1.out, HS2.out]; omega) HO.out)
          go_wp2_with fail
          go_ret
          exact ⟨by rw [HL.out, HX.out]; rfl, hb2.out⟩
    · have b1 : (k' != 2) = true := by simpa using hk'
      have HL : Hid (v = false) := Lib.hid (by rw [HV.out, decide_eq_false hk', Bool.and_false, Bool.false_and])
      clear HV hk'
      go_enter Tryd.func44, Tryd.ntmps44
      go_wp2_with fail
      go_ret
      exact ⟨by rw [HL.out]; rfl, hb2.out⟩
  · have b1 : (k != 2) = true := by simpa using hk
    have HL : Hid (v = false) := Lib.hid (by rw [HV.out, decide_eq_false hk, Bool.false_and, Bool.false_and])
    clear HV hk
    go_enter Tryd.func44, Tryd.ntmps44
    go_wp2_with fail
    go_ret
    exact ⟨by rw [HL.out]; rfl, hb2.out⟩
end Go.Proofs.YtgdidamjgaegkaaDoor
