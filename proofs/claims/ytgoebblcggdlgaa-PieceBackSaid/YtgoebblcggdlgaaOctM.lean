/- A number's bytes: seven bits each, the lowest first; what taking one off bytes gives. Mathematics alone. -/
namespace Go.Proofs.Ytgoebblcggdlgaa.OctM

/-- A number's bytes. -/
def enc (n : Nat) : List UInt8 := if n < 128 then [UInt8.ofNat n] else UInt8.ofNat (n % 128 + 128) :: enc (n / 128)
termination_by n
theorem enc_low {n : Nat} (h : n < 128) : enc n = [UInt8.ofNat n] := by rw [enc, if_pos h]
theorem enc_high {n : Nat} (h : ¬ n < 128) : enc n = UInt8.ofNat (n % 128 + 128) :: enc (n / 128) := by rw [enc, if_neg h]
theorem enc_len (k : Nat) : ∀ n, n < 128 ^ (k + 1) → (enc n).length ≤ k + 1 := by
  induction k with
  | zero => intro n h; rw [enc_low (by simpa using h)]; simp
  | succ k ih =>
    intro n h
    by_cases h1 : n < 128
    · rw [enc_low h1]; simp
    · rw [enc_high h1]
      have := ih (n / 128) (by rw [Nat.div_lt_iff_lt_mul (by omega)]; rw [Nat.pow_succ] at h; omega)
      simp; omega
theorem enc_pos (n : Nat) : 0 < (enc n).length := by
  by_cases h : n < 128
  · rw [enc_low h]; simp
  · rw [enc_high h]; simp
/-- A number held between 0 and the greatest. -/
def held (n : Int) : Nat := (min (max n 0) 1099511627776).toNat
theorem held_le (n : Int) : held n ≤ 1099511627776 := by unfold held; omega
theorem held_self {n : Int} (h : 0 ≤ n) (h' : n ≤ 1099511627776) : ((held n : Nat) : Int) = n := by unfold held; omega
theorem held_len (n : Int) : (enc (held n)).length ≤ 6 := enc_len 5 _ (by have := held_le n; simp; omega)

/-- What bytes begin with: a number, how many bytes it has, and 0; or 0, 0, and an error. i bytes of it are behind, their value is v. -/
def scan : List UInt8 → Nat → Nat → Nat × Nat × Nat
  | [], i, _ => if 6 ≤ i then (0, 0, 3) else (0, 0, 2)
  | c :: l, i, v => if i = 6 then (0, 0, 3) else if c.toNat < 128 then (if c.toNat = 0 ∧ 0 < i then (0, 0, 3) else (v + c.toNat % 128 * 128 ^ i, i + 1, 0)) else scan l (i + 1) (v + c.toNat % 128 * 128 ^ i)
theorem enc_ne_zero {n : Nat} (h : 0 < n) (h' : n < 128) : (UInt8.ofNat n).toNat = n := by
  rw [UInt8.toNat_ofNat_of_lt']; simp [UInt8.size]; omega
theorem low_nat {n : Nat} (h' : n < 256) : (UInt8.ofNat n).toNat = n := by
  rw [UInt8.toNat_ofNat_of_lt']; simp [UInt8.size]; omega
/-- What was put is taken. -/
theorem scan_enc (rest : List UInt8) : ∀ (k n i v : Nat), i + k ≤ 6 → n < 128 ^ k → (0 < i → 0 < n) → 0 < k → scan (enc n ++ rest) i v = (v + n * 128 ^ i, i + (enc n).length, 0) := by
  intro k
  induction k with
  | zero => intro n i v _ _ _ h; omega
  | succ k ih =>
    intro n i v hik hn hi _
    by_cases h1 : n < 128
    · rw [enc_low h1]
      simp only [List.cons_append, List.nil_append, scan, low_nat (show n < 256 by omega), List.length_singleton]
      rw [if_neg (by omega), if_pos h1, if_neg (by omega), Nat.mod_eq_of_lt h1]
    · rw [enc_high h1]
      simp only [List.cons_append, scan, low_nat (show n % 128 + 128 < 256 by omega), List.length_cons]
      have hk : 0 < k := by
        rcases Nat.eq_zero_or_pos k with h | h
        · subst h; simp at hn; omega
        · exact h
      rw [if_neg (by omega), if_neg (by omega), ih (n / 128) (i + 1) _ (by omega) (by rw [Nat.div_lt_iff_lt_mul (by omega)]; rw [Nat.pow_succ] at hn; omega) (by omega) hk]
      have e1 : (n % 128 + 128) % 128 = n % 128 := by omega
      have e2 : v + (n % 128 + 128) % 128 * 128 ^ i + n / 128 * 128 ^ (i + 1) = v + n * 128 ^ i := by
        rw [e1, Nat.pow_succ, Nat.mul_comm (128 ^ i) 128, ← Nat.mul_assoc, Nat.add_assoc, ← Nat.add_mul]
        congr 2; omega
      rw [e2]
      congr 2; omega
theorem scan_put (n : Nat) (h : n ≤ 1099511627776) (rest : List UInt8) : scan (enc n ++ rest) 0 0 = (n, (enc n).length, 0) := by
  rw [scan_enc rest 6 n 0 0 (by omega) (by simp; omega) (by omega) (by omega)]; simp
end Go.Proofs.Ytgoebblcggdlgaa.OctM
