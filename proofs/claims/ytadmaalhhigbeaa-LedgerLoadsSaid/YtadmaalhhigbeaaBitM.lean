/- Sets of small numbers as 32 bits: what is in them, with a number, without it. -/
import Derived.WalkKit
import Derived.ProofKit
namespace Go.Proofs.Ytadmaalhhigbeaa
open Go Go.RowKit
namespace BitM

theorem ofInt_nat (a : BitVec 32) : BitVec.ofInt 32 (a.toNat : Int) = a := by
  apply BitVec.eq_of_toNat_eq
  rw [BitVec.toNat_ofInt]
  have := a.isLt
  omega
theorem wrap_nat (a : BitVec 32) : IntKind.u32.wrap (a.toNat : Int) = (a.toNat : Int) := by
  have := a.isLt
  simp [IntKind.wrap, IntKind.signed, IntKind.bits]
  omega
theorem u32_and (a b : BitVec 32) : bits .and .u32 (a.toNat : Int) (b.toNat : Int) = ((a &&& b).toNat : Int) := by
  show IntKind.u32.wrap ((BitVec.ofInt 32 (a.toNat : Int) &&& BitVec.ofInt 32 (b.toNat : Int)).toNat : Int) = _
  rw [ofInt_nat, ofInt_nat, wrap_nat]
theorem u32_or (a b : BitVec 32) : bits .or .u32 (a.toNat : Int) (b.toNat : Int) = ((a ||| b).toNat : Int) := by
  show IntKind.u32.wrap ((BitVec.ofInt 32 (a.toNat : Int) ||| BitVec.ofInt 32 (b.toNat : Int)).toNat : Int) = _
  rw [ofInt_nat, ofInt_nat, wrap_nat]
theorem u32_andNot (a b : BitVec 32) : bits .andNot .u32 (a.toNat : Int) (b.toNat : Int) = ((a &&& ~~~b).toNat : Int) := by
  show IntKind.u32.wrap ((BitVec.ofInt 32 (a.toNat : Int) &&& ~~~ BitVec.ofInt 32 (b.toNat : Int)).toNat : Int) = _
  rw [ofInt_nat, ofInt_nat, wrap_nat]
theorem nat_eq (a b : BitVec 32) : ((a.toNat : Int) == (b.toNat : Int)) = (a == b) := by
  rw [Bool.eq_iff_iff]
  simp only [beq_iff_eq]
  constructor
  · intro h; exact BitVec.eq_of_toNat_eq (by omega)
  · intro h; rw [h]
theorem nat_eq0 (a : BitVec 32) : ((a.toNat : Int) == 0) = (a == 0#32) := nat_eq a 0#32
theorem nat_ne0 (a : BitVec 32) : ((a.toNat : Int) != 0) = (a != 0#32) := by
  have := nat_eq0 a
  simp only [bne, this]

/-- The set of one number; none, if it is in no set. -/
def one (n : Int) : BitVec 32 := if 0 ≤ n ∧ n < 32 then BitVec.twoPow 32 n.toNat else 0#32
/-- Is a number in a set? -/
def has (x : BitVec 32) (n : Int) : Bool := decide (0 ≤ n ∧ n < 32) && x.getLsbD n.toNat
def put (x : BitVec 32) (n : Int) : BitVec 32 := x ||| one n

theorem one_in {k : Nat} (h : k < 32) : one (k : Int) = BitVec.twoPow 32 k := by unfold one; rw [if_pos (by omega)]; rfl
theorem one_out {n : Int} (h : ¬ (0 ≤ n ∧ n < 32)) : one n = 0#32 := if_neg h
theorem has_in (x : BitVec 32) {k : Nat} (h : k < 32) : has x (k : Int) = x.getLsbD k := by
  unfold has; rw [decide_eq_true (by omega)]; rfl
theorem has_out (x : BitVec 32) {n : Int} (h : ¬ (0 ≤ n ∧ n < 32)) : has x n = false := by unfold has; rw [decide_eq_false h]; rfl
theorem and_one (x : BitVec 32) (n : Int) : (x &&& one n != 0#32) = has x n := by
  by_cases h : 0 ≤ n ∧ n < 32
  · obtain ⟨k, rfl⟩ := Int.eq_ofNat_of_zero_le h.1
    have hk : k < 32 := by omega
    rw [one_in hk, has_in x hk, BitVec.and_twoPow]
    cases hb : x.getLsbD k
    · simp
    · simp only [if_true, bne_iff_ne, ne_eq]
      intro he
      have := congrArg (fun v : BitVec 32 => v.getLsbD k) he
      simp [hk] at this
  · rw [one_out h, has_out x h]; simp
theorem two_pow_nat {k : Nat} (h : k < 32) : (BitVec.twoPow 32 k).toNat = 2 ^ k := by
  rw [BitVec.toNat_twoPow]
  exact Nat.mod_eq_of_lt (Nat.pow_lt_pow_right (by omega) h)
theorem put_add {x : BitVec 32} {k : Nat} (h : x.getLsbD k = false) : x + BitVec.twoPow 32 k = x ||| BitVec.twoPow 32 k := by
  apply BitVec.add_eq_or_of_and_eq_zero
  rw [BitVec.and_twoPow, h]; rfl
theorem put_add_nat {x : BitVec 32} {k : Nat} (hk : k < 32) (h : x.getLsbD k = false) : x.toNat + 2 ^ k = (x ||| BitVec.twoPow 32 k).toNat ∧ x.toNat + 2 ^ k < 4294967296 := by
  have h1 := put_add h
  have h2 := congrArg BitVec.toNat h1
  rw [BitVec.toNat_add, two_pow_nat hk] at h2
  have hlt : x.toNat + 2 ^ k < 2 ^ 32 := by
    have hx := x.isLt
    have hb : x.toNat / 2 ^ k % 2 = 0 := by
      have := h
      rw [BitVec.getLsbD, Nat.testBit_eq_decide_div_mod_eq] at this
      simp at this
      omega
    have hp : (2 : Nat) ^ 32 = 2 ^ k * (2 * 2 ^ (31 - k)) := by
      rw [← Nat.pow_succ', ← Nat.pow_add]; congr 1; omega
    have hd := Nat.div_add_mod x.toNat (2 ^ k)
    have hm := Nat.mod_lt x.toNat (Nat.two_pow_pos k)
    have hq : x.toNat / 2 ^ k < 2 * 2 ^ (31 - k) := by
      apply Nat.div_lt_of_lt_mul; rw [← hp]; exact hx
    have hq2 : x.toNat / 2 ^ k + 2 ≤ 2 * 2 ^ (31 - k) := by omega
    have h3 := Nat.mul_le_mul_left (2 ^ k) hq2
    rw [Nat.mul_add] at h3
    omega
  rw [Nat.mod_eq_of_lt hlt] at h2
  exact ⟨h2, by omega⟩
theorem put_self {x : BitVec 32} {n : Int} (h : has x n = true) : put x n = x := by
  unfold put
  by_cases hn : 0 ≤ n ∧ n < 32
  · obtain ⟨k, rfl⟩ := Int.eq_ofNat_of_zero_le hn.1
    have hk : k < 32 := by omega
    rw [has_in x hk] at h
    rw [one_in hk]
    apply BitVec.eq_of_getLsbD_eq
    intro i hi
    simp only [BitVec.getLsbD_or, BitVec.getLsbD_twoPow]
    by_cases e : k = i
    · subst e; simp [h]
    · simp [e]
  · rw [has_out x hn] at h; cases h
theorem has_zero (n : Int) : has 0#32 n = false := by unfold has; simp
theorem has_put (x : BitVec 32) (n m : Int) : has (put x n) m = (has x m || (decide (n = m) && decide (0 ≤ n ∧ n < 32))) := by
  by_cases hm : 0 ≤ m ∧ m < 32
  · obtain ⟨k, rfl⟩ := Int.eq_ofNat_of_zero_le hm.1
    have hk : k < 32 := by omega
    rw [has_in _ hk, has_in _ hk]
    unfold put
    rw [BitVec.getLsbD_or]
    by_cases hn : 0 ≤ n ∧ n < 32
    · obtain ⟨j, rfl⟩ := Int.eq_ofNat_of_zero_le hn.1
      have hj : j < 32 := by omega
      rw [one_in hj, BitVec.getLsbD_twoPow, decide_eq_true hn]
      by_cases e : j = k
      · subst e; simp [hk]
      · have : ¬ ((j : Int) = (k : Int)) := by omega
        simp [e, this]
    · rw [one_out hn, decide_eq_false hn]; simp
  · rw [has_out _ hm, has_out _ hm]
    by_cases e : n = m
    · subst e; rw [decide_eq_false hm]; simp
    · rw [decide_eq_false e]; simp
/-- Two sets with the same numbers are one. -/
theorem ext {x y : BitVec 32} (h : ∀ n : Int, has x n = has y n) : x = y := by
  apply BitVec.eq_of_getLsbD_eq
  intro i hi
  have := h (i : Int)
  rwa [has_in x hi, has_in y hi] at this
theorem bit_of_div (x : BitVec 32) {k : Nat} (h : k < 32) : (((x.toNat / 2 ^ k % 2 : Nat) : Int) == 1) = has x (k : Int) := by
  rw [has_in x h, BitVec.getLsbD, Nat.testBit_eq_decide_div_mod_eq, Bool.eq_iff_iff]
  generalize x.toNat / 2 ^ k % 2 = m
  simp only [beq_iff_eq, decide_eq_true_eq]
  omega
end BitM
end Go.Proofs.Ytadmaalhhigbeaa
