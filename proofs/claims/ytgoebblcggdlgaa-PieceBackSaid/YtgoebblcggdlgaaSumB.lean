/- sum.moved, sum.Join: what each returns. -/
import Derived.Test.YtgoebblcggdlgaaSumA
import Derived.Deep.LoopGhost
namespace Go.Proofs.Ytgoebblcggdlgaa
set_option linter.unusedVariables false
open Go.RowKit SumM

theorem i64_one (n : Nat) (hn : n < 9223372036854775808) : bits .and .i64 (n : Int) 1 = ((n % 2 : Nat) : Int) := by
  have e : (BitVec.ofInt 64 (n : Int)).toNat = n := by
    rw [BitVec.ofInt_natCast, BitVec.toNat_ofNat]; exact Nat.mod_eq_of_lt (by omega)
  show IntKind.i64.wrap ((BitVec.ofInt 64 (n : Int) &&& BitVec.ofInt 64 1).toNat : Int) = _
  rw [BitVec.toNat_and, e, show (BitVec.ofInt 64 1).toNat = 1 from by decide, nat_mask1, IntKind.wrap_i64]
  omega

/-- Squares of powers, and what was moved by the lower bits. -/
theorem pow_next (j : Nat) : times 32 (stn (8 * 2 ^ j) one) (stn (8 * 2 ^ j) one) = stn (8 * 2 ^ (j + 1)) one := by
  rw [times_pow, ← stn_add, Nat.pow_succ]; congr 1; omega
theorem move_odd (n j : Nat) (s : W) (h : n / 2 ^ j % 2 = 1) : times 32 (stn (8 * (n % 2 ^ j)) s) (stn (8 * 2 ^ j) one) = stn (8 * (n % 2 ^ (j + 1))) s := by
  rw [times_pow, ← stn_add, Nat.mod_pow_succ, h]; congr 1; omega
theorem move_even (n j : Nat) (s : W) (h : n / 2 ^ j % 2 = 0) : stn (8 * (n % 2 ^ j)) s = stn (8 * (n % 2 ^ (j + 1))) s := by
  rw [Nat.mod_pow_succ, h]; congr 1
theorem half_pow (n j : Nat) : n / 2 ^ j / 2 = n / 2 ^ (j + 1) := by rw [Nat.div_div_eq_div_mul, ← Nat.pow_succ]

end Go.Proofs.Ytgoebblcggdlgaa
