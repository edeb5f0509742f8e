/- More of sets: masks, their fields, labels; both masks; what is in all of a list. -/
import Derived.Test.YtadmaalhhigbeaaEachA
namespace Go.Proofs.Ytadmaalhhigbeaa
set_option linter.unusedVariables false
open Go Go.RowKit BitM

theorem low_bit (n i : Nat) : (2 ^ n - 1 : Nat).testBit i = decide (i < n) := Nat.testBit_two_pow_sub_one n i
theorem bit_255 (i : Nat) : (255#32 : BitVec 32).getLsbD i = decide (i < 8) := low_bit 8 i
theorem bit_511 (i : Nat) : (511#32 : BitVec 32).getLsbD i = decide (i < 9) := low_bit 9 i
theorem le_511 (x : BitVec 32) : decide (x.toNat ≤ 511) = true ↔ ∀ i, 9 ≤ i → i < 32 → x.getLsbD i = false := by
  rw [decide_eq_true_iff]
  constructor
  · intro h i h9 _
    have : x.toNat < 2 ^ i := Nat.lt_of_lt_of_le (by omega : x.toNat < 2 ^ 9) (Nat.pow_le_pow_right (by omega) h9)
    exact Nat.testBit_lt_two_pow this
  · intro h
    have : x.toNat < 2 ^ 9 := by
      apply Nat.lt_pow_two_of_testBit
      intro i hi
      by_cases h32 : i < 32
      · exact h i hi h32
      · exact BitVec.getLsbD_of_ge x i (by omega)
    omega
theorem check_eq (x : BitVec 32) : (x &&& ~~~511#32 == 0#32) = decide (x.toNat ≤ 511) := by
  rw [Bool.eq_iff_iff, le_511, beq_iff_eq]
  constructor
  · intro h i h9 h32
    have := congrArg (fun v : BitVec 32 => v.getLsbD i) h
    simp only [BitVec.getLsbD_and, BitVec.getLsbD_not, bit_511, BitVec.getLsbD_zero] at this
    simpa [h32, show ¬ i < 9 by omega] using this
  · intro h
    apply BitVec.eq_of_getLsbD_eq
    intro i hi
    simp only [BitVec.getLsbD_and, BitVec.getLsbD_not, bit_511, BitVec.getLsbD_zero]
    by_cases h9 : i < 9
    · simp [h9]
    · simp [h i (by omega) hi]
theorem has_and_255 (x : BitVec 32) (n : Int) : has (x &&& 255#32) n = (has x n && decide (n < 8)) := by
  by_cases h : 0 ≤ n ∧ n < 32
  · obtain ⟨k, rfl⟩ := Int.eq_ofNat_of_zero_le h.1
    have hk : k < 32 := by omega
    rw [has_in _ hk, has_in _ hk, BitVec.getLsbD_and, bit_255]
    congr 1
    rw [Bool.eq_iff_iff]; simp; omega
  · rw [has_out _ h, has_out _ h]; rfl
theorem mem_lst (x : BitVec 32) (k : Nat) (n : Int) : n ∈ lst x k ↔ (0 ≤ n ∧ n < k ∧ has x n = true) := by
  unfold lst
  rw [List.mem_map]
  constructor
  · rintro ⟨i, hi, rfl⟩
    rw [List.mem_filter, List.mem_range] at hi
    exact ⟨by omega, by omega, hi.2⟩
  · rintro ⟨h0, h1, h2⟩
    obtain ⟨i, rfl⟩ := Int.eq_ofNat_of_zero_le h0
    exact ⟨i, List.mem_filter.2 ⟨List.mem_range.2 (by omega), h2⟩, rfl⟩
theorem mem_flds (x : BitVec 32) (n : Int) : n ∈ flds x ↔ (0 ≤ n ∧ n < 8 ∧ has x n = true) := by
  unfold flds
  rw [mem_lst, has_and_255]
  simp only [Bool.and_eq_true, decide_eq_true_eq]
  constructor
  · rintro ⟨a, b, c, d⟩; exact ⟨a, d, c⟩
  · rintro ⟨a, b, c⟩; exact ⟨a, by omega, c, b⟩
theorem flds_in (x : BitVec 32) (j : Nat) (h : j < (flds x).length) : ∃ i : Nat, i < 8 ∧ (flds x)[j] = (i : Int) := by
  have := (mem_flds x (flds x)[j]).1 (List.getElem_mem h)
  obtain ⟨i, hi⟩ := Int.eq_ofNat_of_zero_le this.1
  exact ⟨i, by omega, hi⟩

theorem mcheck_any (x : BitVec 32) (w : World) : Calls Try.prog 36 #[.int .u32 (x.toNat : Int)] w fun e w' => e = .returned (.bool (decide (x.toNat ≤ 511))) ∧ w = w' := by
  have H := Lib.hid (within_any x 511#32 w)
  rw [check_eq] at H
  go_enter Try.func36, Try.ntmps36
  go_wp2_with fail
  refine H.out.mono ?_
  rintro e w' ⟨rfl, rfl⟩
  go_wp2_with fail
  go_ret
  exact ⟨rfl, rfl⟩
theorem rmcheck_any (x : BitVec 32) (w : World) : Calls Try.prog 38 #[.int .u32 (x.toNat : Int)] w fun e w' => e = .returned (.bool (decide (x.toNat ≤ 511))) ∧ w = w' := by
  have h1 : decide ((x.toNat : Int) ≤ 511) = decide (x.toNat ≤ 511) := by rw [decide_eq_decide]; omega
  by_cases h : x.toNat ≤ 511
  · rw [decide_eq_true h] at h1 ⊢
    go_enter Try.func38, Try.ntmps38
    go_wp2_with fail
    go_ret
    exact ⟨rfl, rfl⟩
  · rw [decide_eq_false h] at h1 ⊢
    go_enter Try.func38, Try.ntmps38
    go_wp2_with fail
    go_ret
    exact ⟨rfl, rfl⟩

/-- The numbers of a list as a set. -/
def ofl (l : List Int) : BitVec 32 := l.foldl put 0#32
theorem ofl_snoc (l : List Int) (n : Int) : ofl (l ++ [n]) = put (ofl l) n := by unfold ofl; rw [List.foldl_append]; rfl
theorem has_ofl (l : List Int) (n : Int) : has (ofl l) n = (decide (0 ≤ n ∧ n < 32) && decide (n ∈ l)) := by
  have key : ∀ (l : List Int) (x : BitVec 32), has (l.foldl put x) n = (has x n || (decide (0 ≤ n ∧ n < 32) && decide (n ∈ l))) := by
    intro l
    induction l with
    | nil => intro x; simp
    | cons m l ih =>
      intro x
      rw [List.foldl_cons, ih, has_put]
      by_cases hn : 0 ≤ n ∧ n < 32
      · by_cases e : m = n
        · subst e; simp [hn]
        · have : ¬ n = m := fun h => e h.symm
          simp [hn, e, this]
      · by_cases e : m = n
        · subst e; simp [hn]
        · simp [hn, e]
  rw [ofl, key, has_zero, Bool.false_or]

/-- The mask of fields and labels. -/
def mkm (b : Bool) (l : List Int) : BitVec 32 := (ofl l &&& 255#32) ||| (if b then 256#32 else 0#32)
end Go.Proofs.Ytadmaalhhigbeaa
