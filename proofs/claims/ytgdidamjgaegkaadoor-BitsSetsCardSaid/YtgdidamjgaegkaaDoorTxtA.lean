/- bits.Int: what any text is read as; bits.Tens of small numbers. -/
import Derived.Test.YtgdidamjgaegkaaDoorTxtM
import Derived.Test.YtgdidamjgaegkaaDoorMskC
import Derived.Test.YtgdidamjgaegkaaDoorShelf
namespace Go.Proofs.YtgdidamjgaegkaaDoor
set_option linter.unusedVariables false
open Go Go.RowKit BitM MskM

theorem tens_small (n : Int) (w : World) (h0 : 0 ≤ n) (h1 : n < 100) : Calls Tryd.prog 30 #[.int .i64 n] w fun e w' => e = .returned (.string (str (Lib.itoa n))) ∧ w = w' := by
  obtain ⟨k, rfl⟩ := Int.eq_ofNat_of_zero_le h0
  have HI := Lib.hid (Tryd.strconv_Itoa_small k (by omega) w)
  have HE : Hid (Lib.itoa (k : Int) = Lib.decDigits k) := Lib.hid (by unfold Lib.itoa; rw [if_neg (by omega), Int.toNat_natCast])
  go_enter Tryd.func30, Tryd.ntmps30
  go_wp2_with fail
  refine HI.out.mono ?_
  rintro e w1 ⟨rfl, rfl⟩
  go_wp2_with fail
  go_ret
  exact ⟨by rw [HE.out]; rfl, rfl⟩

theorem take_byte (s : ByteArray) (k : Nat) (h : k < s.size) : s.data.toList.take (k + 1) = s.data.toList.take k ++ [s[k]] := by
  rw [List.take_succ_eq_append_getElem (by simpa using h)]; rfl

set_option maxRecDepth 100000 in
set_option maxHeartbeats 1600000 in
theorem int_any (s : ByteArray) (most : Int) (w : World) : Calls Tryd.prog 26 #[.string s, .int .i64 most] w fun e w' =>
    e = .returned (.tuple #[.int .i64 (pint s.data.toList most).1, .bool (pint s.data.toList most).2]) ∧ w = w' := by
  have hsz : s.data.toList.length = s.size := by simp
  by_cases h0 : s.size = 0
  · have HP : Hid (pint s.data.toList most = (0, false)) := Lib.hid (by unfold pint; rw [if_pos (Or.inl (List.length_eq_zero_iff.1 (by omega)))])
    have e0 : s.toList = [] := by rw [ByteArray.toList_eq]; exact List.length_eq_zero_iff.1 (by omega)
    go_enter Tryd.func26, Tryd.ntmps26
    go_wp2_with fail
    go_ret2
    exact ⟨by rw [HP.out]; rfl, rfl⟩
  · have hpos : 0 < s.size := by omega
    have e0 : (!s.toList.isEmpty) = true := by
      rw [ByteArray.toList_eq, Bool.not_eq_true', List.isEmpty_eq_false_iff]
      intro e; rw [e] at hsz; simp at hsz; omega
    have e1 : s.toList.isEmpty = false := by simpa using e0
    by_cases h14 : 14 ≤ s.size
    · have HP : Hid (pint s.data.toList most = (0, false)) := Lib.hid (by unfold pint; rw [if_pos (Or.inr (Or.inl (by omega)))])
      have h14i : (14 : Int) ≤ (s.size : Int) := by omega
      clear hsz h0
      go_enter Tryd.func26, Tryd.ntmps26
      go_wp2_with fail
      go_ret2
      exact ⟨by rw [HP.out]; rfl, rfl⟩
    · have h14i : (s.size : Int) < 14 := by omega
      by_cases hz : 1 < s.size ∧ (s[0]'hpos).toNat = 48
      · obtain ⟨hz1, hz2⟩ := hz
        have HP : Hid (pint s.data.toList most = (0, false)) := Lib.hid (by
          unfold pint
          have hh : s.data.toList.headD 0 = 48 := by
            rw [List.headD_eq_head?_getD, List.head?_eq_getElem?, List.getElem?_eq_getElem (by omega)]
            exact UInt8.toNat_inj.1 hz2
          rw [if_pos (Or.inr (Or.inr (Or.inl ⟨by omega, hh⟩)))])
        have hz3 : (1 : Int) < (s.size : Int) := by omega
        have hz4 : (((s[0]'hpos).toNat : Int) == 48) = true := by rw [hz2]; rfl
        clear hsz h0 hz2 h14
        go_enter Tryd.func26, Tryd.ntmps26
        go_wp2_with fail
        go_ret2
        exact ⟨by rw [HP.out]; rfl, rfl⟩
      · have key : s.size ≤ 1 ∨ (1 < s.size ∧ (((s[0]'hpos).toNat : Int) == 48) = false) := by
          by_cases h1 : s.size ≤ 1
          · exact .inl h1
          · refine .inr ⟨by omega, ?_⟩
            rw [beq_eq_false_iff_ne]
            intro e
            exact hz ⟨by omega, by omega⟩
        have HZ : Hid (¬ (1 < s.data.toList.length ∧ s.data.toList.headD 0 = 48)) := Lib.hid (by
          rintro ⟨h1, h2⟩
          apply hz
          refine ⟨by omega, ?_⟩
          have : s.data.toList.headD 0 = s[0] := by
            rw [List.headD_eq_head?_getD, List.head?_eq_getElem?, List.getElem?_eq_getElem (by omega)]
            first | done | rfl
          rw [this] at h2
          rw [h2]; rfl)
        have HNE : Hid (s.data.toList ≠ []) := Lib.hid (by intro e; rw [e] at hsz; simp at hsz; omega)
        have HSZ := Lib.hid hsz
        clear hz h0 hsz
        rcases key with h1 | ⟨h1, h2⟩
        all_goals
          go_enter Tryd.func26, Tryd.ntmps26
          go_wp2_with fail
          clear e0 e1
          go_loop [6, 27] (fun n i => ∃ k m : Nat, k ≤ s.size ∧ i = .int .i64 k ∧ n = .int .i64 m ∧ m < 10000000000000 ∧ Hid (m = num (s.data.toList.take k)) ∧ Hid ((s.data.toList.take k).all dig = true)) (fun _ i => s.size - (intOf i).toNat)
          case atStart => exact ⟨0, 0, Nat.zero_le _, rfl, rfl, by omega, Lib.hid rfl, Lib.hid rfl⟩
          case round =>
            obtain ⟨k, m, hk, rfl, rfl, hm, HM, HD⟩ := hrel
            by_cases hlt : k < s.size
            · have HT := Lib.hid (take_byte s k hlt)
              by_cases hc : 48 ≤ (s[k]'hlt).toNat ∧ (s[k]'hlt).toNat ≤ 57
              · obtain ⟨hc1, hc2⟩ := hc
                have HD2 : Hid ((s.data.toList.take (k + 1)).all dig = true) := Lib.hid (by
                  rw [HT.out, List.all_append, HD.out, Bool.true_and, List.all_cons, List.all_nil, Bool.and_true, dig, decide_eq_true hc1, decide_eq_true hc2]; rfl)
                have HM2 : Hid (10 * m + ((s[k]'hlt).toNat - 48) = num (s.data.toList.take (k + 1))) := Lib.hid (by
                  rw [HT.out, num_snoc, ← HM.out])
                have hm2 : 10 * m + ((s[k]'hlt).toNat - 48) < 10000000000000 := by
                  rw [HM2.out]
                  have := num_lt _ _ rfl HD2.out
                  rw [List.length_take, HSZ.out, Nat.min_eq_left (by omega)] at this
                  exact Nat.lt_of_lt_of_le this (Nat.pow_le_pow_right (by omega) (by omega : k + 1 ≤ 13))
                have hc1' : (48 : Int) ≤ ((s[k]'hlt).toNat : Int) := by omega
                have hc2' : ((s[k]'hlt).toNat : Int) ≤ 57 := by omega
                clear hc1 hc2
                go_wp2_with fail
                go_round
                case rel => exact ⟨k + 1, 10 * m + ((s[k]'hlt).toNat - 48), by omega, by go_num, by go_num, hm2, HM2, HD2⟩
                case measure => simp [intOf]; omega
              · have HP : Hid (pint s.data.toList most = (0, false)) := Lib.hid (by
                  unfold pint
                  rw [if_pos (Or.inr (Or.inr (Or.inr (Or.inl ?_))))]
                  rw [List.all_eq_false]
                  refine ⟨s[k], ?_, ?_⟩
                  · have : s[k] = s.data.toList[k]'(by rw [HSZ.out]; exact hlt) := rfl
                    rw [this]
                    exact List.getElem_mem _
                  · unfold dig
                    intro e
                    simp only [Bool.and_eq_true, decide_eq_true_eq] at e
                    exact hc e)
                by_cases hc1 : 48 ≤ (s[k]'hlt).toNat
                · have hc2 : (57 : Int) < ((s[k]'hlt).toNat : Int) := by omega
                  have hc1' : (48 : Int) ≤ ((s[k]'hlt).toNat : Int) := by omega
                  clear hc hc1
                  go_wp2_with fail
                  go_ret2
                  exact ⟨by rw [HP.out]; rfl, rfl⟩
                · have hc2 : ((s[k]'hlt).toNat : Int) < 48 := by omega
                  clear hc hc1
                  go_wp2_with fail
                  go_ret2
                  exact ⟨by rw [HP.out]; rfl, rfl⟩
            · obtain rfl : k = s.size := by omega
              have hT : s.data.toList.take s.size = s.data.toList := by rw [← HSZ.out, List.take_length]
              have hM := HM.out
              have hD := HD.out
              rw [hT] at hM hD
              by_cases hmo : min most 1099511627776 < (m : Int)
              · have HP : Hid (pint s.data.toList most = (0, false)) := Lib.hid (by
                  unfold pint
                  rw [if_pos (Or.inr (Or.inr (Or.inr (Or.inr (by rw [← hM]; exact hmo)))))])
                have hd : decide (min most 1099511627776 < (m : Int)) = true := decide_eq_true hmo
                clear hT hM hD hmo
                go_wp2_with fail
                go_ret2
                exact ⟨by rw [HP.out]; rfl, rfl⟩
              · have HP : Hid (pint s.data.toList most = ((m : Int), true)) := Lib.hid (by
                  unfold pint
                  rw [if_neg (by
                    rintro (h | h | h | h | h)
                    · exact HNE.out h
                    · have := HSZ.out; omega
                    · exact HZ.out h
                    · rw [hD] at h; cases h
                    · rw [← hM] at h; exact hmo h), ← hM])
                have hd : decide (min most 1099511627776 < (m : Int)) = false := decide_eq_false hmo
                clear hT hM hD hmo
                go_wp2_with fail
                go_ret2
                exact ⟨by rw [HP.out]; rfl, rfl⟩
end Go.Proofs.YtgdidamjgaegkaaDoor
