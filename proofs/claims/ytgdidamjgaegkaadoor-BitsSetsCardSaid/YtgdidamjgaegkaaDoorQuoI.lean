/- The document's Int: what any text is read as. -/
import Derived.Test.YtgdidamjgaegkaaDoorTxtA
namespace Go.Proofs.YtgdidamjgaegkaaDoor
set_option linter.unusedVariables false
open Go Go.RowKit BitM MskM

set_option maxRecDepth 100000 in
set_option maxHeartbeats 3200000 in
theorem rint_any (s : ByteArray) (most : Int) (w : World) : Calls Tryd.prog 27 #[.string s, .int .i64 most] w fun e w' =>
    e = .returned (.tuple #[.int .i64 (pint s.data.toList most).1, .bool (pint s.data.toList most).2]) ∧ w = w' := by
  have hsz : s.data.toList.length = s.size := by simp
  obtain ⟨P, hP⟩ : ∃ P, P = pint s.data.toList most := ⟨_, rfl⟩
  rw [← hP]
  have HPP := Lib.hid hP
  clear hP
  by_cases h0 : s.size = 0
  · have HP : Hid (P = (0, false)) := Lib.hid (by rw [HPP.out]; unfold pint; rw [if_pos (Or.inl (List.length_eq_zero_iff.1 (by omega)))])
    clear hsz
    go_enter Tryd.func27, Tryd.ntmps27
    go_wp2_with fail
    go_ret2
    exact ⟨by rw [HP.out]; rfl, rfl⟩
  · have hpos : 0 < s.size := by omega
    have hpi : ((s.size : Int) == 0) = false := by rw [beq_eq_false_iff_ne]; omega
    by_cases h14 : 14 ≤ s.size
    · have HP : Hid (P = (0, false)) := Lib.hid (by rw [HPP.out]; unfold pint; rw [if_pos (Or.inr (Or.inl (by omega)))])
      have h14i : (13 : Int) < (s.size : Int) := by omega
      clear hsz h0
      go_enter Tryd.func27, Tryd.ntmps27
      go_wp2_with fail
      go_ret2
      exact ⟨by rw [HP.out]; rfl, rfl⟩
    · have h14i : ¬ (13 : Int) < (s.size : Int) := by omega
      have HSZ := Lib.hid hsz
      have HNE : Hid (s.data.toList ≠ []) := Lib.hid (by intro e; rw [e] at hsz; simp at hsz; omega)
      have HH : Hid (s.data.toList.headD 0 = s[0]'hpos) := Lib.hid (by
        rw [List.headD_eq_head?_getD, List.head?_eq_getElem?, List.getElem?_eq_getElem (by omega)]
        first | done | rfl)
      clear hsz h0
      go_enter Tryd.func27, Tryd.ntmps27
      go_wp2_with fail
      go_loop [6, 7] (fun n i => ∃ k m : Nat, k ≤ s.size ∧ i = .int .i64 k ∧ n = .int .i64 m ∧ m < 10000000000000 ∧ Hid (m = num (s.data.toList.take k)) ∧ Hid ((s.data.toList.take k).all dig = true)) (fun _ i => s.size - (intOf i).toNat)
      case atStart => exact ⟨0, 0, Nat.zero_le _, rfl, rfl, by omega, Lib.hid rfl, Lib.hid rfl⟩
      case round =>
        obtain ⟨k, m, hk, rfl, rfl, hm, HM, HD⟩ := hrel
        by_cases hlt : k < s.size
        · have HT := Lib.hid (take_byte s k hlt)
          have h256 := UInt8.toNat_lt (s[k]'hlt)
          by_cases hc : 48 ≤ (s[k]'hlt).toNat ∧ (s[k]'hlt).toNat ≤ 57
          · obtain ⟨hc1, hc2⟩ := hc
            have HD2 : Hid ((s.data.toList.take (k + 1)).all dig = true) := Lib.hid (by
              rw [HT.out, List.all_append, HD.out, Bool.true_and, List.all_cons, List.all_nil, Bool.and_true, dig, decide_eq_true hc1, decide_eq_true hc2]; rfl)
            have HM2 : Hid (10 * m + ((s[k]'hlt).toNat - 48) = num (s.data.toList.take (k + 1))) := Lib.hid (by
              rw [HT.out, num_snoc, ← HM.out])
            have hm2 : 10 * m + ((s[k]'hlt).toNat - 48) < 10000000000000 := by
              rw [HM2.out]
              have := num_lt _ _ rfl HD2.out
              rw [List.length_take, HSZ.out, Nat.min_eq_left (by omega)] at this
              exact Nat.lt_of_lt_of_le this (Nat.pow_le_pow_right (by omega) (by omega : k + 1 ≤ 13))
            have hc1' : ¬ ((s[k]'hlt).toNat : Int) < 48 := by omega
            have hc2' : ¬ (57 : Int) < ((s[k]'hlt).toNat : Int) := by omega
            have hmi : (m : Int) < 10000000000000 := by omega
            have hci : ((s[k]'hlt).toNat : Int) < 256 := by omega
            clear hc2 h256
            go_wp2_with fail
            go_round
            case rel => exact ⟨k + 1, 10 * m + ((s[k]'hlt).toNat - 48), by omega, by go_num, by go_num, hm2, HM2, HD2⟩
            case measure => simp [intOf]; omega
          · have HP : Hid (P = (0, false)) := Lib.hid (by
              rw [HPP.out]
              unfold pint
              rw [if_pos (Or.inr (Or.inr (Or.inr (Or.inl ?_))))]
              rw [List.all_eq_false]
              refine ⟨s[k], ?_, ?_⟩
              · have : s[k] = s.data.toList[k]'(by rw [HSZ.out]; exact hlt) := rfl
                rw [this]
                exact List.getElem_mem _
              · unfold dig
                intro e
                simp only [Bool.and_eq_true, decide_eq_true_eq] at e
                exact hc e)
            by_cases hc1 : 48 ≤ (s[k]'hlt).toNat
            · have hc2 : (57 : Int) < ((s[k]'hlt).toNat : Int) := by omega
              have hc1' : ¬ ((s[k]'hlt).toNat : Int) < 48 := by omega
              clear hc hc1
              go_wp2_with fail
              go_ret2
              exact ⟨by rw [HP.out]; rfl, rfl⟩
            · have hc2 : ((s[k]'hlt).toNat : Int) < 48 := by omega
              clear hc hc1
              go_wp2_with fail
              go_ret2
              exact ⟨by rw [HP.out]; rfl, rfl⟩
        · obtain rfl : k = s.size := by omega
          have hT : s.data.toList.take s.size = s.data.toList := by rw [← HSZ.out, List.take_length]
          have HMM : Hid (m = num s.data.toList) := Lib.hid (by rw [HM.out, hT])
          have HDD : Hid (s.data.toList.all dig = true) := Lib.hid (by have := HD.out; rw [hT] at this; exact this)
          clear hT
          by_cases hz : 1 < s.size ∧ (s[0]'hpos).toNat = 48
          · obtain ⟨hz1, hz2⟩ := hz
            have HP : Hid (P = (0, false)) := Lib.hid (by
              rw [HPP.out]
              unfold pint
              rw [if_pos (Or.inr (Or.inr (Or.inl ⟨by rw [HSZ.out]; exact hz1, by rw [HH.out]; exact UInt8.toNat_inj.1 hz2⟩)))])
            have hz3 : (1 : Int) < (s.size : Int) := by omega
            have hz4 : (((s[0]'hpos).toNat : Int) == 48) = true := by rw [hz2]; rfl
            clear hz2
            go_wp2_with fail
            go_ret2
            exact ⟨by rw [HP.out]; rfl, rfl⟩
          · have HZ : Hid (¬ (1 < s.data.toList.length ∧ s.data.toList.headD 0 = 48)) := Lib.hid (by
              rintro ⟨h1, h2⟩
              apply hz
              rw [HH.out] at h2
              exact ⟨by rw [HSZ.out] at h1; exact h1, by rw [h2]; rfl⟩)
            have key : (((s[0]'hpos).toNat : Int) == 48) = false ∨ ((((s[0]'hpos).toNat : Int) == 48) = true ∧ ¬ (1 : Int) < (s.size : Int)) := by
              by_cases e : (s[0]'hpos).toNat = 48
              · right; exact ⟨by rw [e]; rfl, by intro h; exact hz ⟨by omega, e⟩⟩
              · left; rw [beq_eq_false_iff_ne]; omega
            clear hz
            have HV : Hid (P = if most < (m : Int) ∨ 1099511627776 < (m : Int) then (0, false) else ((m : Int), true)) := Lib.hid (by
              rw [HPP.out]
              unfold pint
              by_cases hx : most < (m : Int) ∨ 1099511627776 < (m : Int)
              · rw [if_pos hx, if_pos (Or.inr (Or.inr (Or.inr (Or.inr (by rw [← HMM.out]; omega)))))]
              · rw [if_neg hx, if_neg (by
                  rintro (h | h | h | h | h)
                  · exact HNE.out h
                  · have := HSZ.out; omega
                  · exact HZ.out h
                  · rw [HDD.out] at h; cases h
                  · rw [← HMM.out] at h; omega), ← HMM.out])
            by_cases hm1 : most < (m : Int)
            · have HP : Hid (P = (0, false)) := Lib.hid (by rw [HV.out, if_pos (.inl hm1)])
              rcases key with k1 | ⟨k1, k2⟩
              all_goals
                go_wp2_with fail
                go_ret2
                exact ⟨by rw [HP.out]; rfl, rfl⟩
            · by_cases hm3 : (1099511627776 : Int) < (m : Int)
              · have HP : Hid (P = (0, false)) := Lib.hid (by rw [HV.out, if_pos (.inr hm3)])
                rcases key with k1 | ⟨k1, k2⟩
                all_goals
                  go_wp2_with fail
                  go_ret2
                  exact ⟨by rw [HP.out]; rfl, rfl⟩
              · have HP : Hid (P = ((m : Int), true)) := Lib.hid (by rw [HV.out, if_neg (by omega)])
                rcases key with k1 | ⟨k1, k2⟩
                all_goals
                  go_wp2_with fail
                  go_ret2
                  exact ⟨by rw [HP.out]; rfl, rfl⟩
end Go.Proofs.YtgdidamjgaegkaaDoor
