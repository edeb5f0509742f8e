/- Plain mathematics of seals: sealed bytes leave one constant state; a burst of four bytes is told. No Go here. -/
import Derived.Test.YtgoebblcggdlgaaSumMath
namespace SumM
/-- four bytes as one number, the lowest ahead -/
def w32 (a b c d : UInt8) : W := ((b32 a ||| (b32 b <<< 8)) ||| (b32 c <<< 16)) ||| (b32 d <<< 24)
theorem b32_bit (c : UInt8) (i : Nat) : (b32 c).getLsbD i = c.toNat.testBit i := by
  unfold b32
  rw [BitVec.getLsbD_ofNat]
  by_cases h : i < 32
  · simp [h]
  · simp [h]
    exact Nat.testBit_lt_two_pow (Nat.lt_of_lt_of_le c.toNat_lt (Nat.pow_le_pow_right (by decide) (show 8 ≤ i by omega)))
theorem byte_high (c : UInt8) (i : Nat) (h : 8 ≤ i) : c.toNat.testBit i = false :=
  Nat.testBit_lt_two_pow (Nat.lt_of_lt_of_le c.toNat_lt (Nat.pow_le_pow_right (by decide) h))
theorem cases4 (i : Nat) (h : i < 32) : (i < 8) ∨ (8 ≤ i ∧ i < 16) ∨ (16 ≤ i ∧ i < 24) ∨ (24 ≤ i) := by omega
theorem w32_bit (a b c d : UInt8) (i : Nat) (hi : i < 32) : (w32 a b c d).getLsbD i =
    if i < 8 then a.toNat.testBit i else if i < 16 then b.toNat.testBit (i - 8) else if i < 24 then c.toNat.testBit (i - 16) else d.toNat.testBit (i - 24) := by
  unfold w32
  simp only [BitVec.getLsbD_or, BitVec.getLsbD_shiftLeft, b32_bit]
  rcases cases4 i hi with h | h | h | h
  · simp [hi, h, show i < 16 by omega, show i < 24 by omega]
  · simp [hi, show ¬ i < 8 by omega, show i < 16 by omega, show i < 24 by omega, byte_high a i (by omega)]
  · simp [hi, show ¬ i < 8 by omega, show ¬ i < 16 by omega, show i < 24 by omega, byte_high a i (by omega), byte_high b (i - 8) (by omega)]
  · simp [hi, show ¬ i < 8 by omega, show ¬ i < 16 by omega, show ¬ i < 24 by omega, byte_high a i (by omega), byte_high b (i - 8) (by omega), byte_high c (i - 16) (by omega)]
theorem w32_xor (a b c d : UInt8) : w32 a b c d = ((b32 a ^^^ (b32 b <<< 8)) ^^^ (b32 c <<< 16)) ^^^ (b32 d <<< 24) := by
  apply BitVec.eq_of_getLsbD_eq
  intro i hi
  rw [w32_bit a b c d i hi]
  simp only [BitVec.getLsbD_xor, BitVec.getLsbD_shiftLeft, b32_bit]
  rcases cases4 i hi with h | h | h | h
  · simp [hi, h, show i < 16 by omega, show i < 24 by omega]
  · simp [hi, show ¬ i < 8 by omega, show i < 16 by omega, show i < 24 by omega, byte_high a i (by omega)]
  · simp [hi, show ¬ i < 8 by omega, show ¬ i < 16 by omega, show i < 24 by omega, byte_high a i (by omega), byte_high b (i - 8) (by omega)]
  · simp [hi, show ¬ i < 8 by omega, show ¬ i < 16 by omega, show ¬ i < 24 by omega, byte_high a i (by omega), byte_high b (i - 8) (by omega), byte_high c (i - 16) (by omega)]
def byteAt (s : W) (k : Nat) : UInt8 := UInt8.ofNat (s.toNat / 2 ^ k)
theorem byteAt_bit (s : W) (k i : Nat) (h : i < 8) : (byteAt s k).toNat.testBit i = s.getLsbD (k + i) := by
  have : (byteAt s k).toNat = s.toNat / 2 ^ k % 2 ^ 8 := by simp [byteAt]
  rw [this, Nat.testBit_mod_two_pow, Nat.testBit_div_two_pow]
  simp [h, BitVec.getLsbD, Nat.add_comm]
def le4 (s : W) : List UInt8 := [byteAt s 0, byteAt s 8, byteAt s 16, byteAt s 24]
theorem w32_le4 (s : W) : w32 (byteAt s 0) (byteAt s 8) (byteAt s 16) (byteAt s 24) = s := by
  apply BitVec.eq_of_getLsbD_eq
  intro i hi
  rw [w32_bit _ _ _ _ i hi]
  rcases cases4 i hi with h | h | h | h
  · simp [h, byteAt_bit]
  · simp [show ¬ i < 8 by omega, show i < 16 by omega]; rw [byteAt_bit _ _ _ (by omega)]; congr 1; omega
  · simp [show ¬ i < 8 by omega, show ¬ i < 16 by omega, show i < 24 by omega]; rw [byteAt_bit _ _ _ (by omega)]; congr 1; omega
  · simp [show ¬ i < 8 by omega, show ¬ i < 16 by omega, show ¬ i < 24 by omega]; rw [byteAt_bit _ _ _ (by omega)]; congr 1; omega
theorem byte_ext {a b : UInt8} (h : ∀ i, i < 8 → a.toNat.testBit i = b.toNat.testBit i) : a = b := by
  apply UInt8.toNat_inj.1
  apply Nat.eq_of_testBit_eq
  intro i
  by_cases hi : i < 8
  · exact h i hi
  · rw [byte_high a i (by omega), byte_high b i (by omega)]
theorem le4_w32 (a b c d : UInt8) : le4 (w32 a b c d) = [a, b, c, d] := by
  have e0 : byteAt (w32 a b c d) 0 = a := byte_ext fun i hi => by rw [byteAt_bit _ _ _ hi, w32_bit _ _ _ _ _ (by omega)]; simp [hi]
  have e1 : byteAt (w32 a b c d) 8 = b := byte_ext fun i hi => by rw [byteAt_bit _ _ _ hi, w32_bit _ _ _ _ _ (by omega)]; simp [show ¬ 8 + i < 8 by omega, show 8 + i < 16 by omega]
  have e2 : byteAt (w32 a b c d) 16 = c := byte_ext fun i hi => by rw [byteAt_bit _ _ _ hi, w32_bit _ _ _ _ _ (by omega)]; simp [show ¬ 16 + i < 8 by omega, show ¬ 16 + i < 16 by omega, show 16 + i < 24 by omega]
  have e3 : byteAt (w32 a b c d) 24 = d := byte_ext fun i hi => by rw [byteAt_bit _ _ _ hi, w32_bit _ _ _ _ _ (by omega)]; simp [show ¬ 24 + i < 8 by omega, show ¬ 24 + i < 16 by omega, show ¬ 24 + i < 24 by omega]
  simp [le4, e0, e1, e2, e3]

theorem stn_shift8 : ∀ c : Fin 256, stn 8 (BitVec.ofNat 32 c.val <<< 8) = BitVec.ofNat 32 c.val := by decide +kernel
theorem stn_shift16 : ∀ c : Fin 256, stn 16 (BitVec.ofNat 32 c.val <<< 16) = BitVec.ofNat 32 c.val := by decide +kernel
theorem stn_shift24 : ∀ c : Fin 256, stn 24 (BitVec.ofNat 32 c.val <<< 24) = BitVec.ofNat 32 c.val := by decide +kernel
theorem run4 (s : W) (a b c d : UInt8) : run s [a, b, c, d] = stn 32 (s ^^^ w32 a b c d) := by
  have hb : stn 8 (b32 b <<< 8) = b32 b := stn_shift8 ⟨b.toNat, b.toNat_lt⟩
  have hc : stn 16 (b32 c <<< 16) = b32 c := stn_shift16 ⟨c.toNat, c.toNat_lt⟩
  have hd : stn 24 (b32 d <<< 24) = b32 d := stn_shift24 ⟨d.toNat, d.toNat_lt⟩
  simp only [run]
  rw [w32_xor, ← BitVec.xor_assoc, ← BitVec.xor_assoc, ← BitVec.xor_assoc]
  have e32 : ∀ x : W, stn 32 x = stn 8 (stn 24 x) := fun x => stn_add 24 8 x
  have e24 : ∀ x : W, stn 24 x = stn 8 (stn 16 x) := fun x => stn_add 16 8 x
  have e16 : ∀ x : W, stn 16 x = stn 8 (stn 8 x) := fun x => stn_add 8 8 x
  rw [e32, stn_xor 24, hd, e24, stn_xor 16, hc, e16, stn_xor 8 _ (b32 b <<< 8), hb]

theorem xor_move {a b c : W} (h : a ^^^ b = c) : b = c ^^^ a := by
  subst h
  rw [BitVec.xor_comm a b, BitVec.xor_assoc, BitVec.xor_self]; simp
def sealOf (b : List UInt8) : List UInt8 := b ++ le4 (sumOf b)
/-- the bytes that were sealed, if these are sealed -/
def openOf (l : List UInt8) : Option (List UInt8) :=
  if 4 ≤ l.length ∧ le4 (sumOf (l.take (l.length - 4))) = l.drop (l.length - 4) then some (l.take (l.length - 4)) else none
theorem le4_length (s : W) : (le4 s).length = 4 := rfl
theorem openOf_seal (b : List UInt8) : openOf (sealOf b) = some b := by
  have h : (sealOf b).length - 4 = b.length := by simp [sealOf, le4_length]
  unfold openOf
  rw [h, if_pos]
  · simp [sealOf]
  · simp [sealOf, le4_length]
theorem run_inj {s t : W} (n : Nat) (h : stn n s = stn n t) : s = t := by
  apply xor_eq_zero
  apply stn_eq_zero n
  rw [stn_xor, h, BitVec.xor_self]
theorem four {l : List UInt8} (h : l.length = 4) : ∃ a b c d, l = [a, b, c, d] := by
  match l, h with
  | [a, b, c, d], _ => exact ⟨a, b, c, d, rfl⟩
/-- sealed just if the state behind all is the one constant -/
theorem sealed_iff (x y : List UInt8) (hy : y.length = 4) : le4 (sumOf x) = y ↔ run ones (x ++ y) = stn 32 ones := by
  obtain ⟨a, b, c, d, rfl⟩ := four hy
  rw [run_append, run4]
  constructor
  · intro h
    have hw : w32 a b c d = sumOf x := by
      have := w32_le4 (sumOf x)
      simp only [le4, List.cons.injEq, and_true] at h
      obtain ⟨h0, h1, h2, h3⟩ := h
      rw [h0, h1, h2, h3] at this
      exact this
    rw [hw, sumOf]
    congr 1
    rw [BitVec.xor_comm ones, ← BitVec.xor_assoc, BitVec.xor_self]; simp
  · intro h
    have h1 := run_inj 32 h
    have hw : w32 a b c d = sumOf x := by
      exact xor_move h1
    rw [← hw, le4_w32]
/-- bytes that are turned, four in a row -/
def xorAt (l t : List UInt8) : List UInt8 := List.zipWith (· ^^^ ·) l t
theorem b32_xor (a b : UInt8) : b32 (a ^^^ b) = b32 a ^^^ b32 b := by
  apply BitVec.eq_of_getLsbD_eq
  intro i _
  rw [BitVec.getLsbD_xor, b32_bit, b32_bit, b32_bit, UInt8.toNat_xor, Nat.testBit_xor]
theorem w32_xor2 (a b c d a' b' c' d' : UInt8) : w32 (a ^^^ a') (b ^^^ b') (c ^^^ c') (d ^^^ d') = w32 a b c d ^^^ w32 a' b' c' d' := by
  have sh : ∀ (x y : W) (n : Nat), (x ^^^ y) <<< n = (x <<< n) ^^^ (y <<< n) := fun x y n => BitVec.shiftLeft_xor_distrib x y n
  have r : ∀ p q r s p' q' r' s' : W, ((p ^^^ p') ^^^ (q ^^^ q')) ^^^ (r ^^^ r') ^^^ (s ^^^ s') = (((p ^^^ q) ^^^ r) ^^^ s) ^^^ (((p' ^^^ q') ^^^ r') ^^^ s') := by
    intros; ac_rfl
  rw [w32_xor, w32_xor a b c d, w32_xor a' b' c' d', b32_xor, b32_xor, b32_xor, b32_xor, sh, sh, sh]
  exact r _ _ _ _ _ _ _ _
theorem w32_zero {a b c d : UInt8} (h : w32 a b c d = 0#32) : a = 0 ∧ b = 0 ∧ c = 0 ∧ d = 0 := by
  have h1 := le4_w32 a b c d
  rw [h] at h1
  have h2 : le4 0#32 = [0, 0, 0, 0] := by decide
  rw [h2] at h1
  simp only [List.cons.injEq, and_true] at h1
  exact ⟨h1.1.symm, h1.2.1.symm, h1.2.2.1.symm, h1.2.2.2.symm⟩
/-- a burst is told -/
theorem burst (p q : List UInt8) (a b c d a' b' c' d' : UInt8) (hne : ¬ (a' = 0 ∧ b' = 0 ∧ c' = 0 ∧ d' = 0))
    (h : run ones (p ++ ([a, b, c, d] ++ q)) = stn 32 ones) : run ones (p ++ ([a ^^^ a', b ^^^ b', c ^^^ c', d ^^^ d'] ++ q)) ≠ stn 32 ones := by
  intro h'
  rw [← h] at h'
  simp only [run_append, run4, w32_xor2] at h'
  rw [← BitVec.xor_assoc, stn_xor 32 _ (w32 a' b' c' d'), run_xor] at h'
  have h2 : stn (8 * q.length) (stn 32 (w32 a' b' c' d')) = 0#32 := by
    have := congrArg (fun z => run (stn 32 (run ones p ^^^ w32 a b c d)) q ^^^ z) h'
    simp only [← BitVec.xor_assoc, BitVec.xor_self] at this
    simpa using this
  exact hne (w32_zero (stn_eq_zero 32 (stn_eq_zero _ h2)))
theorem openOf_burst (b p q : List UInt8) (a1 a2 a3 a4 a' b' c' d' : UInt8) (hne : ¬ (a' = 0 ∧ b' = 0 ∧ c' = 0 ∧ d' = 0))
    (h : sealOf b = p ++ ([a1, a2, a3, a4] ++ q)) : openOf (p ++ ([a1 ^^^ a', a2 ^^^ b', a3 ^^^ c', a4 ^^^ d'] ++ q)) = none := by
  have hl : ∀ l : List UInt8, 4 ≤ l.length → (le4 (sumOf (l.take (l.length - 4))) = l.drop (l.length - 4) ↔ run ones l = stn 32 ones) := by
    intro l hl
    rw [sealed_iff _ _ (by simp; omega), List.take_append_drop]
  have h1 : run ones (sealOf b) = stn 32 ones := by
    rw [← hl _ (by simp [sealOf, le4_length])]
    simp [sealOf, le4_length]
  rw [h] at h1
  have h2 := burst p q a1 a2 a3 a4 a' b' c' d' hne h1
  unfold openOf
  rw [if_neg]
  rintro ⟨h3, h4⟩
  exact h2 ((hl _ h3).1 h4)
end SumM
