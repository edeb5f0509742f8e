/- The document's next: what it returns. -/
import Derived.Test.YticdpfjajkfheaaDoorOctN
import Derived.Test.YticdpfjajkfheaaDoorOctA
namespace Go.Proofs.YticdpfjajkfheaaDoor
set_option linter.unusedVariables false
open Go.RowKit OctM

theorem getD_str (l : List UInt8) (k : Nat) (h : k < (str l).size) : (str l)[k] = l.getD k 0 := by
  rw [str_get]
  have : k < l.length := by rw [← str_size]; exact h
  simp [List.getD, List.getElem?_eq_getElem this]

set_option maxRecDepth 8000 in
set_option maxHeartbeats 1600000 in
theorem ref_next (l : List UInt8) (most : Int) (w : World) (hm : l.length ≤ 2097152) :
    Calls Tryd.prog 72 #[.string (str l), .int .i64 most] w fun e w' =>
      e = .returned (.tuple #[.int .i64 ((nextOut l most).1 : Nat), .int .i64 ((nextOut l most).2.1 : Nat), .int .i64 ((nextOut l most).2.2 : Nat)]) ∧ w = w' := by
  have hsz := str_size l
  go_enter Tryd.func72, Tryd.ntmps72
  go_wp2_with fail
  go_loop [7] (fun i => ∃ k : Nat, k ≤ 6 ∧ k ≤ l.length ∧ i = .int .i64 k ∧ (∀ j, j < k → 128 ≤ (l.getD j 0).toNat)) (fun i => 6 - (intOf i).toNat)
  case atStart => exact ⟨0, Nat.zero_le _, Nat.zero_le _, rfl, fun j h => absurd h (Nat.not_lt_zero j)⟩
  case round =>
    obtain ⟨k, hk6, hkl, rfl, ha⟩ := hrel
    have HA := Lib.hid ha
    clear ha
    by_cases h6 : k < 6
    · have d6 : decide ((k : Int) < 6) = true := by simp; omega
      by_cases hl : k < l.length
      · have dl : decide ((k : Int) < (l.length : Int)) = true := by simp; omega
        have hks : k < (str l).size := by rw [hsz]; exact hl
        by_cases hx : 128 ≤ (l.getD k 0).toNat
        · have dx : decide ((128 : Int) ≤ ((str l)[k].toNat : Int)) = true := by rw [getD_str]; exact decide_eq_true (by omega)
          have HX := Lib.hid hx
          clear hx
          go_wp2_with fail
          go_round
          case rel => exact ⟨k + 1, by omega, by omega, by go_num, fun j hj => by
            by_cases e : j = k
            · rw [e]; exact HX.out
            · exact HA.out j (by omega)⟩
          case measure => simp [intOf]; try omega
        · have dx : decide ((128 : Int) ≤ ((str l)[k].toNat : Int)) = false := by rw [getD_str]; exact decide_eq_false (by omega)
          have hlow := next_low l k h6 hl HA.out (by omega)
          have hk7 : k < 7 := by omega
          by_cases hz : (l.getD k 0).toNat = 0 ∧ 0 < k
          · have HR := Lib.hid (show nextOut l most = (0, 0, 3) from by unfold nextOut; rw [hlow, if_pos hz]; simp)
            have dz : (((str l)[k].toNat : Int) == 0) = true := by rw [getD_str, hz.1]; rfl
            have dk : decide ((0 : Int) < (k : Int)) = true := by simp; omega
            have dk' : decide (0 < k) = true := by simp; omega
            have he6 : ((k : Int) == 6) = false := by simp; omega
            have hel : ((k : Int) == (l.length : Int)) = false := by simp; omega
            have HX := Lib.hid hx
            have HZ := Lib.hid hz
            clear hx hz hlow
            go_wp2_with fail
            go_ret3
            exact ⟨by rw [HR.out]; rfl, rfl⟩
          · have HNO := Lib.hid (show nextOut l most = if 1099511627776 < (val l (k + 1) : Int) ∨ most < (val l (k + 1) : Int) then (0, 0, 4) else (val l (k + 1), k + 1, 0) from by unfold nextOut; rw [hlow, if_neg hz]; simp)
            have he6 : ((k : Int) == 6) = false := by simp; omega
            have hel : ((k : Int) == (l.length : Int)) = false := by simp; omega
            have hk5 : k ≤ 5 := by omega
            by_cases hk0 : 0 < k
            · have dk : decide ((0 : Int) < (k : Int)) = true := by simp; omega
              have dk' : decide (0 < k) = true := by simp; omega
              have dz : (((str l)[k].toNat : Int) == 0) = false := by
                rw [getD_str]
                have : (l.getD k 0).toNat ≠ 0 := fun h => hz ⟨h, hk0⟩
                rw [beq_eq_false_iff_ne]; omega
              have HX := Lib.hid hx
              have HZ := Lib.hid hz
              clear hx hz hlow
              go_wp2_with fail
              go_loop [8, 9] (fun v i => ∃ r u : Nat, r ≤ k + 1 ∧ v = .int .i64 u ∧ i = .int .i64 ((r : Int) - 1) ∧ val l (k + 1) = val l r + u * 128 ^ r ∧ u < 128 ^ (k + 1 - r)) (fun _ i => ((intOf i) + 1).toNat)
              case atStart => exact ⟨k + 1, 0, Nat.le_refl _, rfl, by simp, by simp, by simp⟩
              case round =>
                obtain ⟨r, u, hrk, rfl, rfl, hv, hu⟩ := hrel
                have HV := Lib.hid hv
                have HU := Lib.hid hu
                clear hv
                by_cases hr0 : r = 0
                · subst hr0
                  have HW := Lib.hid (show val l (k + 1) = u from by rw [HV.out]; simp [val])
                  have HNO2 := Lib.hid (show nextOut l most = if 1099511627776 < (u : Int) ∨ most < (u : Int) then (0, 0, 4) else (u, k + 1, 0) from by rw [HNO.out, HW.out])
                  clear hu
                  by_cases hb : 1099511627776 < (u : Int)
                  · have HR := Lib.hid (show nextOut l most = (0, 0, 4) from by rw [HNO2.out, if_pos (.inl hb)])
                    have db : decide ((1099511627776 : Int) < (u : Int)) = true := decide_eq_true hb
                    clear hb
                    go_wp2_with fail
                    go_ret3
                    exact ⟨by rw [HR.out]; rfl, rfl⟩
                  · have db : decide ((1099511627776 : Int) < (u : Int)) = false := decide_eq_false hb
                    by_cases hb2 : most < (u : Int)
                    · have HR := Lib.hid (show nextOut l most = (0, 0, 4) from by rw [HNO2.out, if_pos (.inr hb2)])
                      have db2 : decide (most < (u : Int)) = true := decide_eq_true hb2
                      clear hb hb2
                      go_wp2_with fail
                      go_ret3
                      exact ⟨by rw [HR.out]; rfl, rfl⟩
                    · have HR := Lib.hid (show nextOut l most = (u, k + 1, 0) from by rw [HNO2.out, if_neg (by omega)])
                      have db2 : decide (most < (u : Int)) = false := decide_eq_false hb2
                      clear hb hb2
                      go_wp2_with fail
                      go_ret3
                      exact ⟨by rw [HR.out]; rfl, rfl⟩
                · obtain ⟨q, rfl⟩ : ∃ q, r = q + 1 := ⟨r - 1, by omega⟩
                  have hub : u < 34359738368 := Nat.lt_of_lt_of_le hu (Nat.le_trans (Nat.pow_le_pow_right (by omega) (show k + 1 - (q + 1) ≤ 5 by omega)) (by decide))
                  have hqs : q < (str l).size := by rw [hsz]; omega
                  have dq : decide ((0 : Int) ≤ ((q + 1 : Nat) : Int) - 1) = true := by simp; try omega
                  have hqe : ((q + 1 : Nat) : Int) - 1 = (q : Int) := by omega
                  rw [hqe]
                  have hxq := (str l)[q].toNat_lt
                  have HQ := Lib.hid (getD_str l q hqs)
                  clear hu hr0
                  go_wp2_with fail
                  go_round
                  case rel =>
                    refine ⟨q, u * 128 + (l.getD q 0).toNat % 128, by omega, by rw [← HQ.out]; go_num, by go_num, ?_, ?_⟩
                    · rw [HV.out, val, Nat.pow_succ, Nat.add_mul]; 
                      have : u * (128 ^ q * 128) = u * 128 * 128 ^ q := by rw [Nat.mul_comm (128 ^ q), Nat.mul_assoc]
                      omega
                    · have e : k + 1 - q = (k + 1 - (q + 1)) + 1 := by omega
                      have := HU.out
                      rw [e, Nat.pow_succ]
                      omega
                  case measure => simp [intOf]
            · have dk : decide ((0 : Int) < (k : Int)) = false := by simp; omega
              have dk' : decide (0 < k) = false := by simp; omega
              have HX := Lib.hid hx
              have HZ := Lib.hid hz
              clear hx hz hlow
              go_wp2_with fail
              go_loop [8, 9] (fun v i => ∃ r u : Nat, r ≤ k + 1 ∧ v = .int .i64 u ∧ i = .int .i64 ((r : Int) - 1) ∧ val l (k + 1) = val l r + u * 128 ^ r ∧ u < 128 ^ (k + 1 - r)) (fun _ i => ((intOf i) + 1).toNat)
              case atStart => exact ⟨k + 1, 0, Nat.le_refl _, rfl, by simp, by simp, by simp⟩
              case round =>
                obtain ⟨r, u, hrk, rfl, rfl, hv, hu⟩ := hrel
                have HV := Lib.hid hv
                have HU := Lib.hid hu
                clear hv
                by_cases hr0 : r = 0
                · subst hr0
                  have HW := Lib.hid (show val l (k + 1) = u from by rw [HV.out]; simp [val])
                  have HNO2 := Lib.hid (show nextOut l most = if 1099511627776 < (u : Int) ∨ most < (u : Int) then (0, 0, 4) else (u, k + 1, 0) from by rw [HNO.out, HW.out])
                  clear hu
                  by_cases hb : 1099511627776 < (u : Int)
                  · have HR := Lib.hid (show nextOut l most = (0, 0, 4) from by rw [HNO2.out, if_pos (.inl hb)])
                    have db : decide ((1099511627776 : Int) < (u : Int)) = true := decide_eq_true hb
                    clear hb
                    go_wp2_with fail
                    go_ret3
                    exact ⟨by rw [HR.out]; rfl, rfl⟩
                  · have db : decide ((1099511627776 : Int) < (u : Int)) = false := decide_eq_false hb
                    by_cases hb2 : most < (u : Int)
                    · have HR := Lib.hid (show nextOut l most = (0, 0, 4) from by rw [HNO2.out, if_pos (.inr hb2)])
                      have db2 : decide (most < (u : Int)) = true := decide_eq_true hb2
                      clear hb hb2
                      go_wp2_with fail
                      go_ret3
                      exact ⟨by rw [HR.out]; rfl, rfl⟩
                    · have HR := Lib.hid (show nextOut l most = (u, k + 1, 0) from by rw [HNO2.out, if_neg (by omega)])
                      have db2 : decide (most < (u : Int)) = false := decide_eq_false hb2
                      clear hb hb2
                      go_wp2_with fail
                      go_ret3
                      exact ⟨by rw [HR.out]; rfl, rfl⟩
                · obtain ⟨q, rfl⟩ : ∃ q, r = q + 1 := ⟨r - 1, by omega⟩
                  have hub : u < 34359738368 := Nat.lt_of_lt_of_le hu (Nat.le_trans (Nat.pow_le_pow_right (by omega) (show k + 1 - (q + 1) ≤ 5 by omega)) (by decide))
                  have hqs : q < (str l).size := by rw [hsz]; omega
                  have dq : decide ((0 : Int) ≤ ((q + 1 : Nat) : Int) - 1) = true := by simp; try omega
                  have hqe : ((q + 1 : Nat) : Int) - 1 = (q : Int) := by omega
                  rw [hqe]
                  have hxq := (str l)[q].toNat_lt
                  have HQ := Lib.hid (getD_str l q hqs)
                  clear hu hr0
                  go_wp2_with fail
                  go_round
                  case rel =>
                    refine ⟨q, u * 128 + (l.getD q 0).toNat % 128, by omega, by rw [← HQ.out]; go_num, by go_num, ?_, ?_⟩
                    · rw [HV.out, val, Nat.pow_succ, Nat.add_mul]; 
                      have : u * (128 ^ q * 128) = u * 128 * 128 ^ q := by rw [Nat.mul_comm (128 ^ q), Nat.mul_assoc]
                      omega
                    · have e : k + 1 - q = (k + 1 - (q + 1)) + 1 := by omega
                      have := HU.out
                      rw [e, Nat.pow_succ]
                      omega
                  case measure => simp [intOf]
      · have HR := Lib.hid (next_short l most (by omega) (fun j hj => HA.out j (by omega)))
        obtain rfl : k = l.length := by omega
        have he6 : ((l.length : Int) == 6) = false := by simp; omega
        go_wp2_with fail
        go_ret3
        exact ⟨by rw [HR.out]; rfl, rfl⟩
    · obtain rfl : k = 6 := by omega
      have HR := Lib.hid (next_six l most hkl HA.out)
      go_wp2_with fail
      go_ret3
      exact ⟨by rw [HR.out]; rfl, rfl⟩
end Go.Proofs.YticdpfjajkfheaaDoor
