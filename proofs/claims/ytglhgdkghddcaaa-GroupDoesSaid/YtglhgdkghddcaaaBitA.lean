/- bits and the document's sets: bit, Has, With, Within, One: what each returns. -/
import Derived.Test.YtglhgdkghddcaaaWords
import Derived.Test.YtglhgdkghddcaaaBitM
namespace Go.Proofs.Ytglhgdkghddcaaa
set_option linter.unusedVariables false
open Go.RowKit BitM

theorem bit_any (n : Int) (w : World) : Calls Try.prog 70 #[.int .i64 n] w fun e w' => e = .returned (.int .u32 ((one n).toNat : Int)) ∧ w = w' := by
  by_cases h : 0 ≤ n ∧ n < 32
  · obtain ⟨k, rfl⟩ := Int.eq_ofNat_of_zero_le h.1
    have hk : k < 32 := by omega
    have d1 : decide ((k : Int) < 0) = false := by simp
    have d2 : decide ((32 : Int) ≤ (k : Int)) = false := by simp; omega
    have h2 : (2 : Int) ^ k % 4294967296 = ((2 ^ k : Nat) : Int) := by
      have hlt : (2 : Nat) ^ k < 2 ^ 32 := Nat.pow_lt_pow_right (by omega) hk
      have h3 : ((2 ^ k : Nat) : Int) = (2 : Int) ^ k := by simp
      rw [← h3]
      exact Int.emod_eq_of_lt (Int.natCast_nonneg _) (by rw [show (2 : Nat) ^ 32 = 4294967296 from rfl] at hlt; exact Int.ofNat_lt.2 hlt)
    have H2 := Lib.hid h2
    clear h2
    have h1 := two_pow_nat hk
    rw [one_in hk, h1]
    clear h1
    go_enter Try.func70, Try.ntmps70
    go_wp2
    go_ret
    refine ⟨?_, rfl⟩
    show Ending.returned (.int .u32 ((2 : Int) ^ k % 4294967296)) = _
    rw [H2.out]
  · rw [one_out h]
    by_cases h0 : n < 0
    · have d1 : decide (n < 0) = true := by simpa using h0
      go_enter Try.func70, Try.ntmps70
      go_wp2
      go_ret
      exact ⟨rfl, rfl⟩
    · have d1 : decide (n < 0) = false := by simpa using h0
      have d2 : decide (32 ≤ n) = true := by simp; omega
      go_enter Try.func70, Try.ntmps70
      go_wp2
      go_ret
      exact ⟨rfl, rfl⟩
theorem with_any (x : BitVec 32) (n : Int) (w : World) : Calls Try.prog 53 #[.int .u32 (x.toNat : Int), .int .i64 n] w fun e w' => e = .returned (.int .u32 ((put x n).toNat : Int)) ∧ w = w' := by
  have h1 := BitM.u32_or x (one n)
  unfold put
  generalize x ||| one n = r at h1 ⊢
  go_enter Try.func53, Try.ntmps53
  go_wp2_with fail
  refine (bit_any n _).mono ?_
  rintro e w' ⟨rfl, rfl⟩
  go_wp2_with fail
  go_ret
  exact ⟨rfl, rfl⟩
set_option maxHeartbeats 800000 in
theorem rhas_any (x : BitVec 32) (n : Int) (w : World) : Calls Try.prog 27 #[.int .u32 (x.toNat : Int), .int .i64 n] w fun e w' => e = .returned (.bool (has x n)) ∧ w = w' := by
  by_cases h : 0 ≤ n ∧ n < 32
  · obtain ⟨k, rfl⟩ := Int.eq_ofNat_of_zero_le h.1
    have hk : k < 32 := by omega
    have d1 : decide ((k : Int) < 0) = false := by simp
    have d2 : decide ((31 : Int) < (k : Int)) = false := by simp; omega
    have HB := Lib.hid (bit_of_div x hk)
    have hx := x.isLt
    obtain ⟨X, hX⟩ : ∃ X, X = x.toNat := ⟨_, rfl⟩
    rw [← hX] at HB hx ⊢
    clear hX h
    go_enter Try.func27, Try.ntmps27
    go_wp2_with fail
    go_loop [0, 5] (fun s i => ∃ (j m : Nat), j ≤ k ∧ i = .int .i64 j ∧ s = .int .u32 m ∧ m < 4294967296 ∧ Hid (m = X / 2 ^ j)) (fun _ i => k - (intOf i).toNat)
    case atStart => exact ⟨0, X, by omega, rfl, rfl, by omega, Lib.hid (by simp)⟩
    case round =>
      obtain ⟨j, m, hj, rfl, rfl, hm, HM⟩ := hrel
      by_cases hlt : j < k
      · go_wp2_with fail
        go_round
        case rel => exact ⟨j + 1, m / 2, by omega, by go_num, by go_num, by omega, Lib.hid (by rw [HM.out, Nat.div_div_eq_div_mul, Nat.pow_succ])⟩
        case measure => simp [intOf]; omega
      · obtain rfl : j = k := by omega
        have hb : ((m : Int) % 2 == 1) = has x (j : Int) := by rw [← HB.out, ← HM.out]; rfl
        clear HB HM
        go_wp2_with fail
        go_ret
        exact ⟨rfl, rfl⟩
  · rw [has_out x h]
    by_cases h0 : n < 0
    · have d1 : decide (n < 0) = true := by simpa using h0
      go_enter Try.func27, Try.ntmps27
      go_wp2
      go_ret
      exact ⟨rfl, rfl⟩
    · have d1 : decide (n < 0) = false := by simpa using h0
      have d2 : decide (31 < n) = true := by simp; omega
      go_enter Try.func27, Try.ntmps27
      go_wp2
      go_ret
      exact ⟨rfl, rfl⟩
set_option maxHeartbeats 800000 in
theorem rone_any (k : Nat) (hk : k < 32) (w : World) : Calls Try.prog 55 #[.int .i64 k] w fun e w' => e = .returned (.int .u32 ((2 ^ k : Nat) : Int)) ∧ w = w' := by
  have d1 : decide ((k : Int) < 0) = false := by simp
  have d2 : decide ((31 : Int) < (k : Int)) = false := by simp; omega
  obtain ⟨X, hX⟩ : ∃ X, X = 2 ^ k := ⟨_, rfl⟩
  rw [← hX]
  have HX := Lib.hid hX
  clear hX
  go_enter Try.func55, Try.ntmps55
  go_wp2_with fail
  go_loop [3, 4] (fun s i => ∃ (j m : Nat), j ≤ k ∧ i = .int .i64 j ∧ s = .int .u32 m ∧ Hid (m = 2 ^ j)) (fun _ i => k - (intOf i).toNat)
  case atStart => exact ⟨0, 1, by omega, rfl, rfl, Lib.hid (by simp)⟩
  case round =>
    obtain ⟨j, m, hj, rfl, rfl, HM⟩ := hrel
    by_cases hlt : j < k
    · have hm : m ≤ 1073741824 := by
        have : 2 ^ j ≤ 2 ^ 30 := Nat.pow_le_pow_right (by omega) (by omega)
        rw [HM.out]; exact this
      go_wp2_with fail
      go_round
      case rel => exact ⟨j + 1, m * 2, by omega, by go_num, by go_num, Lib.hid (by rw [HM.out, Nat.pow_succ])⟩
      case measure => simp [intOf]; omega
    · obtain rfl : j = k := by omega
      obtain rfl : m = X := by rw [HM.out, HX.out]
      go_wp2_with fail
      go_ret
      exact ⟨rfl, rfl⟩
theorem rwith_any (x : BitVec 32) (k : Nat) (hk : k < 32) (w : World) : Calls Try.prog 29 #[.int .u32 (x.toNat : Int), .int .i64 k] w fun e w' => e = .returned (.int .u32 ((put x k).toNat : Int)) ∧ w = w' := by
  have HH := Lib.hid (rhas_any x k w)
  cases hb : has x k with
  | true =>
    rw [hb] at HH
    rw [put_self hb]
    clear hb
    go_enter Try.func29, Try.ntmps29
    go_wp2_with fail
    refine HH.out.mono ?_
    rintro e w' ⟨rfl, rfl⟩
    go_wp2_with fail
    go_ret
    exact ⟨rfl, rfl⟩
  | false =>
    rw [hb] at HH
    have HO := Lib.hid (rone_any k hk w)
    rw [has_in x hk] at hb
    have h2 := put_add_nat hk hb
    obtain ⟨m, hm⟩ : ∃ m, m = 2 ^ k := ⟨_, rfl⟩
    obtain ⟨r, hr⟩ : ∃ r, r = (put x k).toNat := ⟨_, rfl⟩
    have hr2 : r = x.toNat + m := by rw [hr, hm]; unfold put; rw [one_in hk]; exact h2.1.symm
    have h3 : x.toNat + m < 4294967296 := by rw [hm]; exact h2.2
    rw [← hr]
    rw [← hm] at HO
    obtain ⟨X, hX⟩ : ∃ X, X = x.toNat := ⟨_, rfl⟩
    rw [← hX] at HH h3 hr2 ⊢
    have HR := Lib.hid hr2
    clear hb h2 hm hr hr2 hX
    go_enter Try.func29, Try.ntmps29
    go_wp2_with fail
    refine HH.out.mono ?_
    rintro e w' ⟨rfl, rfl⟩
    go_wp2_with fail
    refine HO.out.mono ?_
    rintro e w' ⟨rfl, rfl⟩
    go_wp2_with fail
    go_ret
    rw [HR.out]
    exact ⟨by go_num, rfl⟩
end Go.Proofs.Ytglhgdkghddcaaa
