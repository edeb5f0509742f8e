/- A text cut at a byte is its parts; numbers read of texts: the mathematics. -/
import Derived.Test.YtgdidamjgaegkaaDoorMskM
namespace Go.Proofs.YtgdidamjgaegkaaDoor
open Go
namespace MskM

theorem parts_none (c : UInt8) : ∀ (l : List UInt8), c ∉ l → parts c l = [l]
  | [], _ => rfl
  | x :: l, h => by
    simp only [List.mem_cons, not_or] at h
    unfold parts
    rw [if_neg (fun e => h.1 e.symm), parts_none c l h.2]
theorem parts_first (c : UInt8) : ∀ (p r : List UInt8), c ∉ p → parts c (p ++ c :: r) = p :: parts c r
  | [], r, _ => by
    show parts c (c :: r) = _
    rw [parts, if_pos rfl]
  | x :: p, r, h => by
    simp only [List.mem_cons, not_or] at h
    show parts c (x :: (p ++ c :: r)) = _
    rw [parts, if_neg (fun e => h.1 e.symm), parts_first c p r h.2]
theorem index_none (c : UInt8) : ∀ (l : List UInt8), c ∉ l → Lib.index l [c] = -1
  | [], _ => rfl
  | x :: l, h => by
    simp only [List.mem_cons, not_or] at h
    have hp : ([c] : List UInt8).isPrefixOf (x :: l) = false := by simp [List.isPrefixOf, h.1]
    rw [Lib.index, hp, index_none c l h.2]; simp
theorem index_at (c : UInt8) : ∀ (p r : List UInt8), c ∉ p → Lib.index (p ++ c :: r) [c] = (p.length : Int)
  | [], r, _ => by simp [Lib.index, List.isPrefixOf]
  | x :: p, r, h => by
    simp only [List.mem_cons, not_or] at h
    have hp : ([c] : List UInt8).isPrefixOf (x :: (p ++ c :: r)) = false := by simp [List.isPrefixOf, h.1]
    show Lib.index (x :: (p ++ c :: r)) [c] = _
    rw [Lib.index, hp, index_at c p r h.2]
    have : ¬ ((p.length : Int) == -1) = true := by simp
    simp only [Bool.false_eq_true, if_false, this, List.length_cons]
    omega
theorem cut_at (c : UInt8) : ∀ (l : List UInt8), c ∈ l → ∃ p r, l = p ++ c :: r ∧ c ∉ p
  | [], h => by cases h
  | x :: l, h => by
    by_cases e : x = c
    · exact ⟨[], l, by simp [e], by simp⟩
    · obtain ⟨p, r, h1, h2⟩ := cut_at c l (by rcases List.mem_cons.1 h with h | h; exact absurd h.symm e; exact h)
      exact ⟨x :: p, r, by simp [h1], by simp only [List.mem_cons, not_or]; exact ⟨fun h => e h.symm, h2⟩⟩
theorem split_parts (c : UInt8) : ∀ (k : Nat) (l : List UInt8), l.count c = k → Lib.splitK [c] 0 k l = parts c l
  | 0, l, h => by rw [parts_none c l (List.count_eq_zero.1 h)]; rfl
  | k + 1, l, h => by
    have hm : c ∈ l := List.count_pos_iff.1 (by omega)
    obtain ⟨p, r, rfl, hp⟩ := cut_at c l hm
    rw [Lib.splitK, index_at c p r hp]
    have : ¬ ((p.length : Int) == -1) = true := by simp
    rw [if_neg this, parts_first c p r hp, Int.toNat_natCast, Nat.add_zero, List.take_left']
    · congr 1
      have hd : (p ++ c :: r).drop (p.length + [c].length) = r := by
        rw [← List.drop_drop, List.drop_left' rfl]; rfl
      rw [hd]
      refine split_parts c k r ?_
      rw [List.count_append, List.count_eq_zero.2 hp, List.count_cons_self] at h
      omega
    · rfl
theorem split_data (c : UInt8) (s : ByteArray) : (Lib.splitB ⟨#[c]⟩ 0 (Lib.countB s ⟨#[c]⟩) s).map (·.data.toList) = parts c s.data.toList := by
  rw [Lib.splitB_data]
  have : Lib.countB s ⟨#[c]⟩ = s.data.toList.count c := Lib.count_one c s.data.toList
  rw [this]
  exact split_parts c _ _ rfl

/-- Is a byte a digit? The number of digits. -/
def dig (c : UInt8) : Bool := decide (48 ≤ c.toNat) && decide (c.toNat ≤ 57)
def num (l : List UInt8) : Nat := l.foldl (fun n c => 10 * n + (c.toNat - 48)) 0
theorem num_snoc (l : List UInt8) (c : UInt8) : num (l ++ [c]) = 10 * num l + (c.toNat - 48) := by unfold num; rw [List.foldl_append]; rfl
/-- The number that a text is read as, from 0 to most. -/
def pint (l : List UInt8) (most : Int) : Int × Bool :=
  if l = [] ∨ 14 ≤ l.length ∨ (1 < l.length ∧ l.headD 0 = 48) ∨ l.all dig = false ∨ min most 1099511627776 < (num l : Int) then (0, false) else ((num l : Int), true)
theorem num_lt : ∀ (k : Nat) (l : List UInt8), l.length = k → l.all dig = true → num l < 10 ^ k
  | 0, l, h, _ => by rw [List.length_eq_zero_iff.1 h]; decide
  | k + 1, l, h, ha => by
    have hne : l ≠ [] := by rintro rfl; simp at h
    rw [← List.dropLast_concat_getLast hne] at ha ⊢
    rw [num_snoc]
    rw [List.all_append, Bool.and_eq_true] at ha
    have ih := num_lt k l.dropLast (by rw [List.length_dropLast]; omega) ha.1
    have hd := ha.2
    simp only [List.all_cons, List.all_nil, Bool.and_true, dig, Bool.and_eq_true, decide_eq_true_eq] at hd
    rw [Nat.pow_succ]
    omega
end MskM
end Go.Proofs.YtgdidamjgaegkaaDoor
