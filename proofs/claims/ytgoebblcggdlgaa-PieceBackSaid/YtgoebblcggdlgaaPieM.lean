/- Pieces: numbers as bytes, the lowest first, and what a piece's sector is: mathematics alone. -/
import Derived.Test.YtgoebblcggdlgaaWords2
import Derived.Test.YtgoebblcggdlgaaSumMath
namespace Go.Proofs.Ytgoebblcggdlgaa
set_option linter.unusedVariables false
open Go.RowKit SumM

/-- A number in some bytes, the lowest first. -/
def lo : Nat → Nat → List UInt8
  | 0, _ => []
  | k + 1, n => UInt8.ofNat (n % 256) :: lo k (n / 256)
theorem lo_len : ∀ k n, (lo k n).length = k
  | 0, _ => rfl
  | k + 1, n => by rw [lo, List.length_cons, lo_len k]
theorem lo_snoc : ∀ k n, lo (k + 1) n = lo k n ++ [UInt8.ofNat (n / 256 ^ k % 256)]
  | 0, n => by simp [lo]
  | k + 1, n => by
    rw [lo, lo_snoc k (n / 256), lo, List.cons_append, Nat.div_div_eq_div_mul, Nat.pow_succ, Nat.mul_comm (256 ^ k) 256]
/-- The number of bytes, the lowest first. -/
def nu : List UInt8 → Nat
  | [] => 0
  | c :: l => c.toNat + 256 * nu l
theorem nu_lt : ∀ l : List UInt8, nu l < 256 ^ l.length
  | [] => by simp [nu]
  | c :: l => by
    have := nu_lt l
    have hc : c.toNat < 256 := c.toNat_lt
    rw [nu, List.length_cons, Nat.pow_succ]
    omega
theorem nu_snoc : ∀ (l : List UInt8) (c : UInt8), nu (l ++ [c]) = nu l + 256 ^ l.length * c.toNat
  | [], c => by simp [nu]
  | b :: l, c => by
    rw [List.cons_append, nu, nu_snoc l c, nu, List.length_cons, Nat.pow_succ, Nat.mul_add, Nat.mul_comm (256 ^ l.length) 256, Nat.mul_assoc]
    omega
/-- A piece: its life, its place, whether it is the first, the last one, and its body. -/
abbrev Pc := Int × Int × Bool × Bool × List UInt8
def pok (p : Pc) : Bool := decide (1 ≤ p.1 ∧ p.1 < 4294967296 ∧ 0 ≤ p.2.1 ∧ p.2.1 < 1099511627776 ∧ p.2.2.2.2.length ≤ 52)
def pcel (p : Pc) : List Value := [.int .i64 p.1, .int .i64 p.2.1, .bool p.2.2.1, .bool p.2.2.2.1, .string (str p.2.2.2.2)]
def kin (p : Pc) : Nat := p.2.2.2.2.length + (if p.2.2.1 then 64 else 0) + (if p.2.2.2.1 then 128 else 0)
theorem kin_lt {p : Pc} (h : p.2.2.2.2.length ≤ 52) : kin p < 256 := by
  unfold kin
  cases p.2.2.1 <;> cases p.2.2.2.1 <;> simp <;> omega
/-- What stands ahead of the 0s. -/
def hea (p : Pc) : List UInt8 := lo 4 p.1.toNat ++ lo 5 p.2.1.toNat ++ lo 1 (kin p) ++ p.2.2.2.2
theorem hea_len (p : Pc) : (hea p).length = 10 + p.2.2.2.2.length := by
  unfold hea
  simp only [List.length_append, lo_len]
def sec (l : List UInt8) : List UInt8 := l ++ List.replicate (62 - l.length) 0
theorem sec_len {l : List UInt8} (h : l.length ≤ 62) : (sec l).length = 62 := by
  unfold sec
  rw [List.length_append, List.length_replicate]; omega
def pbs (p : Pc) : List UInt8 := if pok p then sec (hea p) ++ lo 2 (sumOf (sec (hea p))).toNat else []
end Go.Proofs.Ytgoebblcggdlgaa
