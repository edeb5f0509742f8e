/- The document's own answers for the sums: what each returns. -/
import Derived.Test.YtgoebblcggdlgaaSumD
import Derived.Test.YtgoebblcggdlgaaSumB
namespace Go.Proofs.Ytgoebblcggdlgaa
set_option linter.unusedVariables false
open Go.RowKit SumM

theorem ref_move (x : W) (w : World) : Calls Try.prog 37 #[.int .u32 (x.toNat : Int)] w fun e w' => e = .returned (.int .u32 ((stn 8 x).toNat : Int)) ∧ w = w' := by
  go_enter Try.func37, Try.ntmps37
  go_wp2
  go_loop [0, 3] (fun s i => ∃ k : Nat, k ≤ 8 ∧ i = .int .i64 k ∧ s = .int .u32 ((stn k x).toNat : Int)) (fun _ i => 8 - (intOf i).toNat)
  case atStart => exact ⟨0, Nat.zero_le _, rfl, rfl⟩
  case round =>
    obtain ⟨k, hk, rfl, rfl⟩ := hrel
    by_cases hlt : k < 8
    · have hS := Lib.hid (stn_succ k x)
      have hx := (stn k x).isLt
      rcases Nat.mod_two_eq_zero_or_one (stn k x).toNat with h | h
      · have h1 : (((stn k x).toNat : Int) % 2 == 1) = false := by
          rw [beq_eq_false_iff_ne]; omega
        have hr := Lib.hid (st_even h)
        clear h
        go_wp2
        go_round
        case rel => exact ⟨k + 1, by omega, by go_num, by rw [hS.out, hr.out, ← half_cast]⟩
        case measure => simp [intOf]; omega
      · have h1 : (((stn k x).toNat : Int) % 2 == 1) = true := by
          rw [beq_iff_eq]; omega
        have hr := Lib.hid (st_odd h)
        have hb : bits .xor .u32 (((stn k x).toNat : Int) / 2) 2197175160 = (((stn k x).toNat / 2 ^^^ 2197175160 : Nat) : Int) := by
          rw [half_cast]; exact u32_xor_nat _ _ (by omega) (by decide)
        have HB := Lib.hid hb
        clear h hb
        go_wp2
        go_round
        case rel => exact ⟨k + 1, by omega, by go_num, by rw [hS.out, hr.out, ← HB.out]⟩
        case measure => simp [intOf]; omega
    · obtain rfl : k = 8 := by omega
      go_wp2
      go_ret
      exact ⟨rfl, rfl⟩

theorem xor_mod (a : W) (c : UInt8) : bits .xor .u32 (a.toNat : Int) ((c.toNat : Int) % 4294967296) = ((a ^^^ b32 c).toNat : Int) := by
  have e : ((c.toNat : Int) % 4294967296) = (c.toNat : Int) := by have := c.toNat_lt; omega
  rw [e, xor_byte]
theorem ref_of (l : List UInt8) (hm : l.length ≤ maxLen) (w : World) : Calls Try.prog 30 #[.string (str l)] w fun e w' => e = .returned (.int .u32 ((sumOf l).toNat : Int)) ∧ w = w' := by
  unfold maxLen at hm
  go_enter Try.func30, Try.ntmps30
  have hsz := str_size l
  go_wp2
  go_loop [3, 4] (fun s i => ∃ k : Nat, k ≤ l.length ∧ i = .int .i64 k ∧ s = .int .u32 ((run ones (l.take k)).toNat : Int)) (fun _ i => l.length - (intOf i).toNat)
  case atStart => exact ⟨0, Nat.zero_le _, rfl, rfl⟩
  case round =>
    obtain ⟨k, hk, rfl, rfl⟩ := hrel
    by_cases hlt : k < l.length
    · have hN := Lib.hid (run_take l ones k hlt)
      have hkl : k < (str l).size := by rw [str_size]; exact hlt
      go_wp2_with fail
      rw [str_get, xor_mod]
      refine (ref_move _ _).mono ?_
      rintro e w' ⟨rfl, rfl⟩
      go_wp2
      go_round
      case rel => exact ⟨k + 1, by omega, by go_num, by rw [hN.out]⟩
      case measure => simp [intOf]; omega
    · obtain rfl : k = l.length := by omega
      go_wp2
      go_ret
      refine ⟨ret_int ?_, rfl⟩
      have e : ((ones ^^^ run ones l).toNat : Int) = bits .xor .u32 ((run ones l).toNat : Int) (ones.toNat : Int) := by rw [u32_xor_bv, BitVec.xor_comm]
      rw [sumOf, e]; rfl

end Go.Proofs.Ytgoebblcggdlgaa
