/- sum.moved, sum.Join: what each returns. -/
import Derived.Test.YtgnkkbgphghioaaSumA
import Derived.Deep.LoopGhost
namespace Go.Proofs.Ytgnkkbgphghioaa
set_option linter.unusedVariables false
open Go.RowKit SumM

theorem i64_one (n : Nat) (hn : n < 9223372036854775808) : bits .and .i64 (n : Int) 1 = ((n % 2 : Nat) : Int) := by
  have e : (BitVec.ofInt 64 (n : Int)).toNat = n := by
    rw [BitVec.ofInt_natCast, BitVec.toNat_ofNat]; exact Nat.mod_eq_of_lt (by omega)
  show IntKind.i64.wrap ((BitVec.ofInt 64 (n : Int) &&& BitVec.ofInt 64 1).toNat : Int) = _
  rw [BitVec.toNat_and, e, show (BitVec.ofInt 64 1).toNat = 1 from by decide, nat_mask1, IntKind.wrap_i64]
  omega

/-- Squares of powers, and what was moved by the lower bits. -/
theorem pow_next (j : Nat) : times 32 (stn (8 * 2 ^ j) one) (stn (8 * 2 ^ j) one) = stn (8 * 2 ^ (j + 1)) one := by
  rw [times_pow, ← stn_add, Nat.pow_succ]; congr 1; omega
theorem move_odd (n j : Nat) (s : W) (h : n / 2 ^ j % 2 = 1) : times 32 (stn (8 * (n % 2 ^ j)) s) (stn (8 * 2 ^ j) one) = stn (8 * (n % 2 ^ (j + 1))) s := by
  rw [times_pow, ← stn_add, Nat.mod_pow_succ, h]; congr 1; omega
theorem move_even (n j : Nat) (s : W) (h : n / 2 ^ j % 2 = 0) : stn (8 * (n % 2 ^ j)) s = stn (8 * (n % 2 ^ (j + 1))) s := by
  rw [Nat.mod_pow_succ, h]; congr 1
theorem half_pow (n j : Nat) : n / 2 ^ j / 2 = n / 2 ^ (j + 1) := by rw [Nat.div_div_eq_div_mul, ← Nat.pow_succ]

set_option maxHeartbeats 400000 in
theorem moved_any (s : W) (n : Nat) (hn : n ≤ 1048576) (w : World) : Calls Try.prog 68 #[.int .u32 (s.toNat : Int), .int .i64 (n : Int)] w fun e w' => e = .returned (.int .u32 ((stn (8 * n) s).toNat : Int)) ∧ w = w' := by
  have he : (stn (8 * 2 ^ 0) one).toNat = 8388608 := by decide
  have HE := Lib.hid he
  clear he
  go_enter Try.func68, Try.ntmps68
  go_wp2
  go_step3
  go_wp2
  go_step3
  go_wp2
  go_loop [0, 1, 5] (fun x m p => ∃ j : Nat, m = .int .i64 ((n / 2 ^ j : Nat) : Int) ∧ x = .int .u32 ((stn (8 * (n % 2 ^ j)) s).toNat : Int) ∧ p = .int .u32 ((stn (8 * 2 ^ j) one).toNat : Int)) (fun _ m _ => (intOf m).toNat)
  case atStart => exact ⟨0, by simp, by rw [show n % 2 ^ 0 = 0 from Nat.mod_one n]; rfl, by rw [HE.out]; rfl⟩
  case round =>
    obtain ⟨j, rfl, rfl, rfl⟩ := hrel
    have hle : n / 2 ^ j ≤ n := Nat.div_le_self _ _
    have hS := Lib.hid (pow_next j)
    have hH := Lib.hid (half_pow n j)
    have hO := Lib.hid (move_odd n j s)
    have hV := Lib.hid (move_even n j s)
    have hfin : Hid (n / 2 ^ j = 0 → n % 2 ^ j = n) := Lib.hid (fun h => Nat.mod_eq_of_lt ((Nat.div_eq_zero_iff_lt (Nat.two_pow_pos j)).1 h))
    obtain ⟨m, hm⟩ : ∃ m, m = n / 2 ^ j := ⟨_, rfl⟩
    rw [← hm] at hO hV hfin hH hle ⊢
    have HM := Lib.hid hm
    clear hm
    by_cases h0 : m = 0
    · have hz : ((m : Int) == 0) = true := by rw [h0]; rfl
      have H0 := Lib.hid h0
      clear h0
      go_wp2
      go_ret
      exact ⟨ret_int (by rw [hfin.out H0.out]), rfl⟩
    · have hz : ((m : Int) == 0) = false := by simp; omega
      have ha := i64_one m (by omega)
      rcases Nat.mod_two_eq_zero_or_one m with hp | hp
      · have hb : (bits .and .i64 (m : Int) 1 == 1) = false := by rw [ha, hp]; rfl
        have HP := Lib.hid hp
        clear ha hp
        go_wp2_with fail
        refine (times_any _ _ _).mono ?_
        rintro e w' ⟨rfl, rfl⟩
        go_wp2
        go_round
        case rel => exact ⟨j + 1, by rw [← hH.out]; go_num, by rw [hV.out HP.out], by rw [hS.out]⟩
        case measure => simp [intOf]; omega
      · have hb : (bits .and .i64 (m : Int) 1 == 1) = true := by rw [ha, hp]; rfl
        have HP := Lib.hid hp
        clear ha hp
        go_wp2_with fail
        refine (times_any _ _ _).mono ?_
        rintro e w' ⟨rfl, rfl⟩
        go_wp2_with fail
        refine (times_any _ _ _).mono ?_
        rintro e w' ⟨rfl, rfl⟩
        go_wp2
        go_round
        case rel => exact ⟨j + 1, by rw [← hH.out]; go_num, by rw [hO.out HP.out], by rw [hS.out]⟩
        case measure => simp [intOf]; omega

set_option maxHeartbeats 400000 in
theorem join_any (a b : W) (n : Nat) (hn : n ≤ 1048576) (w : World) : Calls Try.prog 36 #[.int .u32 (a.toNat : Int), .int .u32 (b.toNat : Int), .int .i64 (n : Int)] w
    fun e w' => e = .returned (.int .u32 ((stn (8 * n) a ^^^ b).toNat : Int)) ∧ w = w' := by
  go_enter Try.func36, Try.ntmps36
  go_wp2_with fail
  refine (moved_any _ _ hn _).mono ?_
  rintro e w' ⟨rfl, rfl⟩
  go_wp2
  go_ret
  exact ⟨ret_int (u32_xor_bv _ _), rfl⟩
end Go.Proofs.Ytgnkkbgphghioaa
