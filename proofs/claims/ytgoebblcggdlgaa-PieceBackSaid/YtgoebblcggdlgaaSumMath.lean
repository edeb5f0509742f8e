/- Plain mathematics of sums over polynomials: the step is linear and one to one; products with powers of x move a sum. No Go here. -/
namespace SumM

abbrev W := BitVec 32
def poly : W := 0x82f63b78#32
def st (s : W) : W := if s.getLsbD 0 then (s >>> 1) ^^^ poly else s >>> 1
def stn : Nat → W → W
  | 0, s => s
  | n + 1, s => stn n (st s)

theorem st_xor (a b : W) : st (a ^^^ b) = st a ^^^ st b := by
  unfold st
  rw [BitVec.getLsbD_xor]
  have hs : (a ^^^ b) >>> 1 = (a >>> 1) ^^^ (b >>> 1) := by
    ext i; simp
  cases ha : a.getLsbD 0 <;> cases hb : b.getLsbD 0 <;> simp [hs]
  · ac_rfl
  · ac_rfl
  · have : poly ^^^ poly = 0#32 := BitVec.xor_self
    calc (a >>> 1) ^^^ (b >>> 1) = (a >>> 1) ^^^ (b >>> 1) ^^^ (poly ^^^ poly) := by rw [this]; simp
      _ = _ := by ac_rfl

theorem st_zero : st 0#32 = 0#32 := by decide

theorem stn_xor (n : Nat) : ∀ a b : W, stn n (a ^^^ b) = stn n a ^^^ stn n b := by
  induction n with
  | zero => intro a b; rfl
  | succ n ih => intro a b; simp only [stn]; rw [st_xor, ih]
theorem stn_zero (n : Nat) : stn n 0#32 = 0#32 := by
  induction n with
  | zero => rfl
  | succ n ih => simp only [stn]; rw [st_zero, ih]
theorem stn_add (m n : Nat) : ∀ s, stn (m + n) s = stn n (stn m s) := by
  induction m with
  | zero => intro s; simp [stn]
  | succ m ih => intro s; rw [Nat.succ_add]; simp only [stn]; exact ih _
theorem stn_succ (n : Nat) (s : W) : stn (n + 1) s = st (stn n s) := stn_add n 1 s

/- step is one to one -/
theorem st_eq_zero {s : W} (h : st s = 0#32) : s = 0#32 := by
  unfold st at h
  split at h
  · exfalso
    have h31 := congrArg (fun x : W => x.getLsbD 31) h
    simp [poly] at h31
  · rename_i h0
    ext i hi
    simp only [BitVec.getElem_zero]
    match i, hi with
    | 0, _ => simpa [BitVec.getLsbD_eq_getElem] using h0
    | i + 1, hi =>
      have := congrArg (fun x : W => x.getLsbD i) h
      simp at this
      rw [Nat.add_comm] at this
      rw [← BitVec.getLsbD_eq_getElem]; exact this
theorem stn_eq_zero (n : Nat) : ∀ {s : W}, stn n s = 0#32 → s = 0#32 := by
  induction n with
  | zero => intro s h; exact h
  | succ n ih => intro s h; exact st_eq_zero (ih h)

theorem xor_eq_zero {a b : W} (h : a ^^^ b = 0#32) : a = b := by
  have : a ^^^ b ^^^ b = 0#32 ^^^ b := by rw [h]
  rw [BitVec.xor_assoc, BitVec.xor_self] at this
  simpa using this

/- the sum's state over bytes -/
def b32 (c : UInt8) : W := BitVec.ofNat 32 c.toNat
def run (s : W) : List UInt8 → W
  | [] => s
  | c :: l => run (stn 8 (s ^^^ b32 c)) l
theorem run_append (l m : List UInt8) : ∀ s, run s (l ++ m) = run (run s l) m := by
  induction l with
  | nil => intro s; rfl
  | cons c l ih => intro s; exact ih _
theorem run_xor (l : List UInt8) : ∀ s t, run (s ^^^ t) l = run s l ^^^ stn (8 * l.length) t := by
  induction l with
  | nil => intro s t; rfl
  | cons c l ih =>
    intro s t
    simp only [run, List.length_cons]
    have : s ^^^ t ^^^ b32 c = (s ^^^ b32 c) ^^^ t := by ac_rfl
    rw [this, stn_xor, ih, show 8 * (l.length + 1) = 8 + 8 * l.length from by omega, stn_add]
def ones : W := 0xffffffff#32
def sumOf (l : List UInt8) : W := ones ^^^ run ones l

theorem sumOf_append (a b : List UInt8) : sumOf (a ++ b) = stn (8 * b.length) (sumOf a) ^^^ sumOf b := by
  unfold sumOf
  rw [run_append]
  have h : run ones a = ones ^^^ (ones ^^^ run ones a) := by rw [← BitVec.xor_assoc, BitVec.xor_self]; simp
  rw [show run (run ones a) b = run ones b ^^^ stn (8 * b.length) (ones ^^^ run ones a) from by
    rw [← run_xor, ← h]]
  ac_rfl

/- products -/
def times (n : Nat) (a b : W) : W :=  -- the lowest n powers
  match n with
  | 0 => 0#32
  | n + 1 => times n a b ^^^ (if a.getLsbD (31 - n) then stn n b else 0#32)
theorem times_st (n k : Nat) (a b : W) : times n a (stn k b) = stn k (times n a b) := by
  induction n with
  | zero => simp [times, stn_zero]
  | succ n ih =>
    simp only [times]
    rw [ih, stn_xor]
    congr 1
    split
    · rw [← stn_add, ← stn_add, Nat.add_comm]
    · rw [stn_zero]
def one : W := 0x80000000#32
theorem stn_one : ∀ n, n < 32 → stn n one = BitVec.twoPow 32 (31 - n) := by decide
theorem times_one_bit (n : Nat) (hn : n ≤ 32) (a : W) (i : Nat) : (times n a one).getLsbD i = (a.getLsbD i && decide (32 - n ≤ i ∧ i < 32)) := by
  induction n with
  | zero => simp [times]
  | succ n ih =>
    simp only [times]
    rw [BitVec.getLsbD_xor, ih (by omega)]
    by_cases hi : i = 31 - n
    · subst hi
      rw [show decide (32 - n ≤ 31 - n ∧ 31 - n < 32) = false from by simp; omega]
      rw [show decide (32 - (n + 1) ≤ 31 - n ∧ 31 - n < 32) = true from by simp; omega]
      split
      · rename_i h; rw [h, stn_one n (by omega)]; simp [BitVec.getLsbD_twoPow]; omega
      · rename_i h; simp at h; simp [h]
    · have hd : decide (32 - (n + 1) ≤ i ∧ i < 32) = decide (32 - n ≤ i ∧ i < 32) := by
        apply decide_eq_decide.2; omega
      rw [hd]
      have : (if a.getLsbD (31 - n) then stn n one else 0#32).getLsbD i = false := by
        split
        · rw [stn_one n (by omega)]; simp [BitVec.getLsbD_twoPow]; omega
        · simp
      rw [this]; simp
theorem times_one (a : W) : times 32 a one = a := by
  apply BitVec.eq_of_getLsbD_eq
  intro i hi
  rw [times_one_bit 32 (by omega)]
  simp [hi]
theorem times_pow (k : Nat) (a : W) : times 32 a (stn k one) = stn k a := by rw [times_st, times_one]

end SumM
