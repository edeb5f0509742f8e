/- A text cut at a byte is its parts; numbers read of texts: the mathematics. -/
import Derived.Test.YtdpghoobdkhilaaDoorK2
import Derived.RangeFuncNested
import Derived.RangeFuncBound
import Derived.RangeFuncCalls
import Derived.RangeFuncLeaves
import Derived.RangeFuncBox
import Derived.Shelf.Abstract
import Derived.Shelf.RegionOpen
import Derived.OwnWalkIn
import Derived.TacticsInMore
import Derived.LoopNIn
import Derived.LoopIn
import Derived.Test.YtdpghoobdkhilaaDoorK1
import Derived.Lib.ConvBytes
import Derived.Test.YtdpghoobdkhilaaDoorCards
import Derived.Test.YtdpghoobdkhilaaDoorTie
import Derived.ProofKit
import Derived.OpenShut
import Derived.LaidMore
import Derived.Deep.DeepHandedRow
import Derived.Lib.LaidTab
import Derived.Shelf.Vars
import Derived.Lib.Bytealg
namespace Go.Proofs.YtdpghoobdkhilaaDoor
open Go
namespace MskM

theorem parts_none (c : UInt8) : ∀ (l : List UInt8), c ∉ l → parts c l = [l]
  | [], _ => rfl
  | x :: l, h => by
    simp only [List.mem_cons, not_or] at h
    unfold parts
    rw [if_neg (fun e => h.1 e.symm), parts_none c l h.2]
theorem parts_first (c : UInt8) : ∀ (p r : List UInt8), c ∉ p → parts c (p ++ c :: r) = p :: parts c r
  | [], r, _ => by
    show parts c (c :: r) = _
    rw [parts, if_pos rfl]
  | x :: p, r, h => by
    simp only [List.mem_cons, not_or] at h
    show parts c (x :: (p ++ c :: r)) = _
    rw [parts, if_neg (fun e => h.1 e.symm), parts_first c p r h.2]
theorem index_none (c : UInt8) : ∀ (l : List UInt8), c ∉ l → Lib.index l [c] = -1
  | [], _ => rfl
  | x :: l, h => by
    simp only [List.mem_cons, not_or] at h
    have hp : ([c] : List UInt8).isPrefixOf (x :: l) = false := by simp [List.isPrefixOf, h.1]
    rw [Lib.index, hp, index_none c l h.2]; simp
theorem index_at (c : UInt8) : ∀ (p r : List UInt8), c ∉ p → Lib.index (p ++ c :: r) [c] = (p.length : Int)
  | [], r, _ => by simp [Lib.index, List.isPrefixOf]
  | x :: p, r, h => by
    simp only [List.mem_cons, not_or] at h
    have hp : ([c] : List UInt8).isPrefixOf (x :: (p ++ c :: r)) = false := by simp [List.isPrefixOf, h.1]
    show Lib.index (x :: (p ++ c :: r)) [c] = _
    rw [Lib.index, hp, index_at c p r h.2]
    have : ¬ ((p.length : Int) == -1) = true := by simp
    simp only [Bool.false_eq_true, if_false, this, List.length_cons]
    omega
theorem cut_at (c : UInt8) : ∀ (l : List UInt8), c ∈ l → ∃ p r, l = p ++ c :: r ∧ c ∉ p
  | [], h => by cases h
  | x :: l, h => by
    by_cases e : x = c
    · exact ⟨[], l, by simp [e], by simp⟩
    · obtain ⟨p, r, h1, h2⟩ := cut_at c l (by rcases List.mem_cons.1 h with h | h; exact absurd h.symm e; exact h)
      exact ⟨x :: p, r, by simp [h1], by simp only [List.mem_cons, not_or]; exact ⟨fun h => e h.symm, h2⟩⟩
theorem split_parts (c : UInt8) : ∀ (k : Nat) (l : List UInt8), l.count c = k → Lib.splitK [c] 0 k l = parts c l
  | 0, l, h => by rw [parts_none c l (List.count_eq_zero.1 h)]; rfl
  | k + 1, l, h => by
    have hm : c ∈ l := List.count_pos_iff.1 (by omega)
    obtain ⟨p, r, rfl, hp⟩ := cut_at c l hm
    rw [Lib.splitK, index_at c p r hp]
    have : ¬ ((p.length : Int) == -1) = true := by simp
    rw [if_neg this, parts_first c p r hp, Int.toNat_natCast, Nat.add_zero, List.take_left']
    · congr 1
      have hd : (p ++ c :: r).drop (p.length + [c].length) = r := by
        rw [← List.drop_drop, List.drop_left' rfl]; rfl
      rw [hd]
      refine split_parts c k r ?_
      rw [List.count_append, List.count_eq_zero.2 hp, List.count_cons_self] at h
      omega
    · rfl
theorem split_data (c : UInt8) (s : ByteArray) : (Lib.splitB ⟨#[c]⟩ 0 (Lib.countB s ⟨#[c]⟩) s).map (·.data.toList) = parts c s.data.toList := by
  rw [Lib.splitB_data]
  have : Lib.countB s ⟨#[c]⟩ = s.data.toList.count c := Lib.count_one c s.data.toList
  rw [this]
  exact split_parts c _ _ rfl

/-- Is a byte a digit? The number of digits. -/
def dig (c : UInt8) : Bool := decide (48 ≤ c.toNat) && decide (c.toNat ≤ 57)
def num (l : List UInt8) : Nat := l.foldl (fun n c => 10 * n + (c.toNat - 48)) 0
theorem num_snoc (l : List UInt8) (c : UInt8) : num (l ++ [c]) = 10 * num l + (c.toNat - 48) := by unfold num; rw [List.foldl_append]; rfl
/-- The number that a text is read as, from 0 to most. -/
def pint (l : List UInt8) (most : Int) : Int × Bool :=
  if l = [] ∨ 14 ≤ l.length ∨ (1 < l.length ∧ l.headD 0 = 48) ∨ l.all dig = false ∨ min most 1099511627776 < (num l : Int) then (0, false) else ((num l : Int), true)
theorem num_lt : ∀ (k : Nat) (l : List UInt8), l.length = k → l.all dig = true → num l < 10 ^ k
  | 0, l, h, _ => by rw [List.length_eq_zero_iff.1 h]; decide
  | k + 1, l, h, ha => by
    have hne : l ≠ [] := by rintro rfl; simp at h
    rw [← List.dropLast_concat_getLast hne] at ha ⊢
    rw [num_snoc]
    rw [List.all_append, Bool.and_eq_true] at ha
    have ih := num_lt k l.dropLast (by rw [List.length_dropLast]; omega) ha.1
    have hd := ha.2
    simp only [List.all_cons, List.all_nil, Bool.and_true, dig, Bool.and_eq_true, decide_eq_true_eq] at hd
    rw [Nat.pow_succ]
    omega
end MskM
end Go.Proofs.YtdpghoobdkhilaaDoor

/- bits.Each as an iterator, slices.Collect over it, and mask.Fields: what each returns. -/
namespace Go.Proofs.YtdpghoobdkhilaaDoor
set_option linter.unusedVariables false
open Go Go.RowKit Go.Shelf BitM
attribute [local go_sem] Oper.semAt_some

/-- The numbers of a set below k, rising. -/
def lst (x : BitVec 32) (k : Nat) : List Int := ((List.range k).filter fun i : Nat => has x (i : Int)).map fun i : Nat => (i : Int)
theorem lst_succ (x : BitVec 32) (k : Nat) : lst x (k + 1) = lst x k ++ if has x (k : Int) = true then [(k : Int)] else [] := by
  unfold lst
  rw [List.range_succ, List.filter_append, List.map_append]
  congr 1
  cases h : has x (k : Int) <;> simp [h]
theorem lst_len (x : BitVec 32) (k : Nat) : (lst x k).length ≤ k := by
  unfold lst
  rw [List.length_map]
  have := List.length_filter_le (fun i : Nat => has x (i : Int)) (List.range k)
  simpa using this
theorem lst_pre (x : BitVec 32) {j k : Nat} (h : j ≤ k) : lst x j <+: lst x k := by
  induction k with
  | zero => obtain rfl : j = 0 := by omega
            exact List.prefix_refl _
  | succ k ih =>
    by_cases e : j = k + 1
    · subst e; exact List.prefix_refl _
    · exact (ih (by omega)).trans (by rw [lst_succ]; exact List.prefix_append _ _)

theorem info_int : (Tryd.prog.info? 3).map (fun i => (i.zero, i.size, i.bytes)) = some (some (.int .i64 0), 1, 8) := by kernel_rfl

/-- The fields of a mask. -/
def flds (x : BitVec 32) : List Int := lst (x &&& 255#32) 32
theorem flds_len (x : BitVec 32) : (flds x).length ≤ 32 := lst_len _ _
end Go.Proofs.YtdpghoobdkhilaaDoor

/- More of sets: masks, their fields, labels; both masks; what is in all of a list. -/
namespace Go.Proofs.YtdpghoobdkhilaaDoor
set_option linter.unusedVariables false
open Go Go.RowKit BitM

theorem low_bit (n i : Nat) : (2 ^ n - 1 : Nat).testBit i = decide (i < n) := Nat.testBit_two_pow_sub_one n i
theorem bit_255 (i : Nat) : (255#32 : BitVec 32).getLsbD i = decide (i < 8) := low_bit 8 i
theorem bit_511 (i : Nat) : (511#32 : BitVec 32).getLsbD i = decide (i < 9) := low_bit 9 i
theorem le_511 (x : BitVec 32) : decide (x.toNat ≤ 511) = true ↔ ∀ i, 9 ≤ i → i < 32 → x.getLsbD i = false := by
  rw [decide_eq_true_iff]
  constructor
  · intro h i h9 _
    have : x.toNat < 2 ^ i := Nat.lt_of_lt_of_le (by omega : x.toNat < 2 ^ 9) (Nat.pow_le_pow_right (by omega) h9)
    exact Nat.testBit_lt_two_pow this
  · intro h
    have : x.toNat < 2 ^ 9 := by
      apply Nat.lt_pow_two_of_testBit
      intro i hi
      by_cases h32 : i < 32
      · exact h i hi h32
      · exact BitVec.getLsbD_of_ge x i (by omega)
    omega
theorem check_eq (x : BitVec 32) : (x &&& ~~~511#32 == 0#32) = decide (x.toNat ≤ 511) := by
  rw [Bool.eq_iff_iff, le_511, beq_iff_eq]
  constructor
  · intro h i h9 h32
    have := congrArg (fun v : BitVec 32 => v.getLsbD i) h
    simp only [BitVec.getLsbD_and, BitVec.getLsbD_not, bit_511, BitVec.getLsbD_zero] at this
    simpa [h32, show ¬ i < 9 by omega] using this
  · intro h
    apply BitVec.eq_of_getLsbD_eq
    intro i hi
    simp only [BitVec.getLsbD_and, BitVec.getLsbD_not, bit_511, BitVec.getLsbD_zero]
    by_cases h9 : i < 9
    · simp [h9]
    · simp [h i (by omega) hi]
theorem has_and_255 (x : BitVec 32) (n : Int) : has (x &&& 255#32) n = (has x n && decide (n < 8)) := by
  by_cases h : 0 ≤ n ∧ n < 32
  · obtain ⟨k, rfl⟩ := Int.eq_ofNat_of_zero_le h.1
    have hk : k < 32 := by omega
    rw [has_in _ hk, has_in _ hk, BitVec.getLsbD_and, bit_255]
    congr 1
    rw [Bool.eq_iff_iff]; simp; omega
  · rw [has_out _ h, has_out _ h]; rfl
theorem mem_lst (x : BitVec 32) (k : Nat) (n : Int) : n ∈ lst x k ↔ (0 ≤ n ∧ n < k ∧ has x n = true) := by
  unfold lst
  rw [List.mem_map]
  constructor
  · rintro ⟨i, hi, rfl⟩
    rw [List.mem_filter, List.mem_range] at hi
    exact ⟨by omega, by omega, hi.2⟩
  · rintro ⟨h0, h1, h2⟩
    obtain ⟨i, rfl⟩ := Int.eq_ofNat_of_zero_le h0
    exact ⟨i, List.mem_filter.2 ⟨List.mem_range.2 (by omega), h2⟩, rfl⟩
theorem mem_flds (x : BitVec 32) (n : Int) : n ∈ flds x ↔ (0 ≤ n ∧ n < 8 ∧ has x n = true) := by
  unfold flds
  rw [mem_lst, has_and_255]
  simp only [Bool.and_eq_true, decide_eq_true_eq]
  constructor
  · rintro ⟨a, b, c, d⟩; exact ⟨a, d, c⟩
  · rintro ⟨a, b, c⟩; exact ⟨a, by omega, c, b⟩
theorem flds_in (x : BitVec 32) (j : Nat) (h : j < (flds x).length) : ∃ i : Nat, i < 8 ∧ (flds x)[j] = (i : Int) := by
  have := (mem_flds x (flds x)[j]).1 (List.getElem_mem h)
  obtain ⟨i, hi⟩ := Int.eq_ofNat_of_zero_le this.1
  exact ⟨i, by omega, hi⟩

/-- The numbers of a list as a set. -/
def ofl (l : List Int) : BitVec 32 := l.foldl put 0#32
theorem ofl_snoc (l : List Int) (n : Int) : ofl (l ++ [n]) = put (ofl l) n := by unfold ofl; rw [List.foldl_append]; rfl
theorem has_ofl (l : List Int) (n : Int) : has (ofl l) n = (decide (0 ≤ n ∧ n < 32) && decide (n ∈ l)) := by
  have key : ∀ (l : List Int) (x : BitVec 32), has (l.foldl put x) n = (has x n || (decide (0 ≤ n ∧ n < 32) && decide (n ∈ l))) := by
    intro l
    induction l with
    | nil => intro x; simp
    | cons m l ih =>
      intro x
      rw [List.foldl_cons, ih, has_put]
      by_cases hn : 0 ≤ n ∧ n < 32
      · by_cases e : m = n
        · subst e; simp [hn]
        · have : ¬ n = m := fun h => e h.symm
          simp [hn, e, this]
      · by_cases e : m = n
        · subst e; simp [hn]
        · simp [hn, e]
  rw [ofl, key, has_zero, Bool.false_or]

/-- The mask of fields and labels. -/
def mkm (b : Bool) (l : List Int) : BitVec 32 := (ofl l &&& 255#32) ||| (if b then 256#32 else 0#32)
end Go.Proofs.YtdpghoobdkhilaaDoor

/- The document's lists of what is in a set, and of a mask's fields: what each returns. -/
namespace Go.Proofs.YtdpghoobdkhilaaDoor
set_option linter.unusedVariables false
open Go Go.RowKit BitM

def GivesL (w : World) (l : List Int) (e : Ending) (w' : World) : Prop :=
  ∃ A c, e = .returned (.slice A l.length c) ∧ Own w' w.heap.size 3 (.slice A l.length c) (ivs l) ∧ Below w.heap.size w w'

end Go.Proofs.YtdpghoobdkhilaaDoor

/- What is in both of two masks, by the document: what it returns. -/
namespace Go.Proofs.YtdpghoobdkhilaaDoor
set_option linter.unusedVariables false
open Go Go.RowKit BitM

/-- What is in both of two masks, by the document. -/
def both (x y : BitVec 32) (k : Nat) : BitVec 32 := ofl (((List.range k).filter fun i : Nat => has x (i : Int) && has y (i : Int)).map fun i : Nat => (i : Int))
theorem both_succ (x y : BitVec 32) (k : Nat) : both x y (k + 1) = if has x (k : Int) && has y (k : Int) then put (both x y k) (k : Int) else both x y k := by
  unfold both
  rw [List.range_succ, List.filter_append, List.map_append]
  have hf : List.filter (fun i : Nat => has x (i : Int) && has y (i : Int)) [k] = if has x (k : Int) && has y (k : Int) then [k] else [] := by rw [List.filter_cons, List.filter_nil]
  rw [hf]
  cases h : has x (k : Int) && has y (k : Int)
  · simp
  · simp only [if_true, List.map_cons, List.map_nil]
    exact ofl_snoc _ _
theorem has_both (x y : BitVec 32) (k : Nat) (n : Nat) (hn : n < 32) : has (both x y k) (n : Int) = (decide (n < k) && (has x (n : Int) && has y (n : Int))) := by
  unfold both
  rw [has_ofl, decide_eq_true (show (0 : Int) ≤ n ∧ (n : Int) < 32 by omega), Bool.true_and, Bool.eq_iff_iff]
  simp only [decide_eq_true_eq, List.mem_map, List.mem_filter, List.mem_range, Bool.and_eq_true]
  constructor
  · rintro ⟨i, ⟨h1, h2⟩, h3⟩
    obtain rfl : i = n := by omega
    exact ⟨h1, h2⟩
  · rintro ⟨h1, h2⟩
    exact ⟨n, ⟨h1, h2⟩, rfl⟩

end Go.Proofs.YtdpghoobdkhilaaDoor

/- The document's masks: Make, Rest; two lists of numbers held against one another: what each returns. -/
namespace Go.Proofs.YtdpghoobdkhilaaDoor
set_option linter.unusedVariables false
open Go Go.RowKit BitM

/-- What is not in a mask, by the document. -/
def rest (x : BitVec 32) (k : Nat) : BitVec 32 := ofl (((List.range k).filter fun i : Nat => !has x (i : Int)).map fun i : Nat => (i : Int))
theorem rest_succ (x : BitVec 32) (k : Nat) : rest x (k + 1) = if has x (k : Int) then rest x k else put (rest x k) (k : Int) := by
  unfold rest
  rw [List.range_succ, List.filter_append, List.map_append]
  have hf : List.filter (fun i : Nat => !has x (i : Int)) [k] = if has x (k : Int) then [] else [k] := by
    rw [List.filter_cons, List.filter_nil]; cases has x (k : Int) <;> rfl
  rw [hf]
  cases h : has x (k : Int)
  · simp only [Bool.false_eq_true, if_false, List.map_cons, List.map_nil]
    exact ofl_snoc _ _
  · simp
theorem rest_eq (x : BitVec 32) : rest x 9 = 511#32 &&& ~~~x := by
  apply BitM.ext
  intro n
  by_cases hn : 0 ≤ n ∧ n < 32
  · obtain ⟨k, rfl⟩ := Int.eq_ofNat_of_zero_le hn.1
    have hk : k < 32 := by omega
    rw [has_in (511#32 &&& ~~~x) hk, BitVec.getLsbD_and, BitVec.getLsbD_not, bit_511, ← has_in x hk]
    unfold rest
    rw [has_ofl, decide_eq_true hn, Bool.true_and, decide_eq_true hk, Bool.true_and, Bool.eq_iff_iff]
    simp only [decide_eq_true_eq, List.mem_map, List.mem_filter, List.mem_range, Bool.and_eq_true]
    constructor
    · rintro ⟨i, ⟨h1, h2⟩, h3⟩
      obtain rfl : i = k := by omega
      exact ⟨h1, h2⟩
    · rintro ⟨h1, h2⟩
      exact ⟨k, ⟨h1, h2⟩, rfl⟩
  · rw [has_out _ hn, has_out _ hn]

/-- The fields of a list, as a set. -/
def fof (l : List Int) : BitVec 32 := ofl (l.filter fun n => decide (0 ≤ n) && decide (n < 8))
theorem fof_snoc (l : List Int) (n : Int) : fof (l ++ [n]) = if decide (0 ≤ n) && decide (n < 8) then put (fof l) n else fof l := by
  unfold fof
  rw [List.filter_append, List.filter_cons, List.filter_nil]
  cases decide (0 ≤ n) && decide (n < 8)
  · simp
  · simp only [if_true]; exact ofl_snoc _ _
theorem fof_eq (l : List Int) : fof l = ofl l &&& 255#32 := by
  apply BitM.ext
  intro n
  rw [has_and_255]
  unfold fof
  rw [has_ofl, has_ofl, Bool.eq_iff_iff]
  simp only [Bool.and_eq_true, decide_eq_true_eq, List.mem_filter]
  constructor
  · rintro ⟨h1, h2, h3, h4⟩; exact ⟨⟨h1, h2⟩, h4⟩
  · rintro ⟨⟨h1, h2⟩, h4⟩; exact ⟨h1, h2, h1.1, h4⟩
theorem fof_lab (l : List Int) : (fof l).getLsbD 8 = false ∧ fof l ||| 256#32 = put (fof l) 8 := by
  refine ⟨?_, rfl⟩
  rw [fof_eq, BitVec.getLsbD_and, bit_255]
  simp
theorem fof_add (l : List Int) : (fof l).toNat + 256 = (fof l ||| 256#32).toNat ∧ (fof l).toNat + 256 < 4294967296 := by
  have h := put_add_nat (x := fof l) (k := 8) (by omega) (fof_lab l).1
  exact h

end Go.Proofs.YtdpghoobdkhilaaDoor

/- The document's texts of numbers, sets and masks, and what a text is read as: what each returns. -/
namespace Go.Proofs.YtdpghoobdkhilaaDoor
set_option linter.unusedVariables false
open Go Go.RowKit BitM MskM

theorem dec_len : ∀ (k u : Nat), u < 10 ^ (k + 1) → (Lib.decDigits u).length ≤ k + 1
  | 0, u, h => by rw [Lib.decDigits_one (by omega)]; simp
  | k + 1, u, h => by
    by_cases h9 : u < 10
    · rw [Lib.decDigits_one h9]; simp
    · rw [Lib.decDigits, dif_neg h9, List.length_append]
      have := dec_len k (u / 10) (by rw [Nat.pow_succ] at h; omega)
      simp; omega
theorem dec_small {u : Nat} (h : u ≤ 9223372036854775808) : (Lib.decDigits u).length ≤ 19 := dec_len 18 u (by omega)
theorem digit_str (w : World) (x : Int) (m : Nat) (hm : m < 256) (hx : x = (m : Int)) :
    (convert 59 9 (.slice (some ⟨w.heap.size, 0, none⟩) 1 1)).run Tryd.prog (w.alloc (.cells #[.int .u8 x] 5)) = .ok (.string (str [UInt8.ofNat m])) (w.alloc (.cells #[.int .u8 x] 5)) :=
  run_str (P := Tryd.prog) _ (w.heap.size + 1) 59 5 9 Tryd.underlying59 Tryd.underlying5 Tryd.underlying9 _ 1 1 [UInt8.ofNat m] rfl
    (by subst hx; exact sees_lit w #[.int .u8 (m : Int)] 5 (0, 0) (bvs [UInt8.ofNat m]) (by simp [bvs, bv, UInt8.toNat_ofNat', Nat.mod_eq_of_lt hm]))

set_option maxRecDepth 100000 in
set_option maxHeartbeats 1600000 in
theorem rtens_nat (k : Nat) : ∀ (n : Nat) (w : World), n ≤ k → n ≤ 9223372036854775807 →
    Calls Tryd.prog 16 #[.int .i64 (n : Int)] w fun e w' => e = .returned (.string (str (Lib.decDigits n))) ∧ Below w.heap.size w w' := by
  induction k using Nat.strongRecOn with
  | _ k ih =>
    intro n w hk hn
    have d0 : decide ((n : Int) < 0) = false := by simp
    have hstr := digit_str w (48 + (n : Int) % 10) (48 + n % 10) (by omega) (by omega)
    have hs1 : (str [UInt8.ofNat (48 + n % 10)]).size = 1 := str_size _
    by_cases h9 : n < 10
    · have HE : Hid (str (Lib.decDigits n) = str [UInt8.ofNat (48 + n % 10)]) := Lib.hid (by rw [Lib.decDigits_one h9, Nat.mod_eq_of_lt h9])
      obtain ⟨t, ht⟩ : ∃ t, t = str [UInt8.ofNat (48 + n % 10)] := ⟨_, rfl⟩
      rw [← ht] at hstr hs1 HE
      clear ht ih
      go_enter Tryd.func16, Tryd.ntmps16
      go_wp2_with fail
      go_ret
      exact ⟨by rw [HE.out]; rfl, (Below.refl _ _).alloc (Nat.le_refl _) _⟩
    · have HE : Hid (str (Lib.decDigits n) = str (Lib.decDigits (n / 10)) ++ str [UInt8.ofNat (48 + n % 10)]) := Lib.hid (by rw [Lib.decDigits, dif_neg h9, str_append])
      have HI := Lib.hid (fun wx : World => ih (n / 10) (by omega) (n / 10) wx (Nat.le_refl _) (by omega))
      have hs2 : (str (Lib.decDigits (n / 10))).size ≤ 19 := by rw [str_size]; exact dec_small (by omega)
      obtain ⟨t, ht⟩ : ∃ t, t = str [UInt8.ofNat (48 + n % 10)] := ⟨_, rfl⟩
      obtain ⟨u, hu⟩ : ∃ u, u = str (Lib.decDigits (n / 10)) := ⟨_, rfl⟩
      rw [← ht] at hstr hs1 HE
      rw [← hu] at hs2 HE HI
      clear ht hu ih
      go_enter Tryd.func16, Tryd.ntmps16
      go_wp2_with fail
      refine (HI.out _).mono ?_
      rintro e w' ⟨rfl, hb⟩
      have hb2 := ((Below.refl w.heap.size w).alloc (Nat.le_refl _) (.cells #[.int .u8 (48 + (n : Int) % 10)] 5)).trans (hb.mono (by simp))
      go_wp2_with fail
      go_ret
      exact ⟨by rw [HE.out]; rfl, hb2⟩
theorem rtens_small (n : Int) (w : World) (h0 : 0 ≤ n) (h1 : n ≤ 9223372036854775807) :
    Calls Tryd.prog 16 #[.int .i64 n] w fun e w' => e = .returned (.string (str (Lib.itoa n))) ∧ Below w.heap.size w w' := by
  obtain ⟨k, rfl⟩ := Int.eq_ofNat_of_zero_le h0
  have := rtens_nat k k w (Nat.le_refl _) (by omega)
  unfold Lib.itoa
  rw [if_neg (by omega), Int.toNat_natCast]
  exact this

/-- A set's text. -/
def bsh (x : BitVec 32) : List UInt8 := if lst x 32 = [] then [45] else Lib.join ((lst x 32).map Lib.itoa) [44]
theorem join_snoc (l : List (List UInt8)) (x : List UInt8) (h : l ≠ []) : Lib.join (l ++ [x]) [44] = Lib.join l [44] ++ [44] ++ x := by
  rcases l with _ | ⟨y, l⟩
  · exact absurd rfl h
  · rw [List.cons_append, Lib.join_cons, Lib.join_cons]
    simp [Lib.joinTail]
theorem lst_mem (x : BitVec 32) (k : Nat) (h : k ≤ 32) : ∀ n ∈ lst x k, 0 ≤ n ∧ n < 32 := by
  intro n hn
  have := (mem_lst x k n).1 hn
  omega
theorem itoa_len {n : Int} (h0 : 0 ≤ n) (h1 : n < 32) : (Lib.itoa n).length ≤ 2 := by
  obtain ⟨k, rfl⟩ := Int.eq_ofNat_of_zero_le h0
  unfold Lib.itoa
  rw [if_neg (by omega), Int.toNat_natCast]
  exact dec_len 1 k (by omega)
theorem joins_len (l : List Int) (h : ∀ n ∈ l, 0 ≤ n ∧ n < 32) : (Lib.join (l.map Lib.itoa) [44]).length ≤ 3 * l.length := by
  rcases l with _ | ⟨y, l⟩
  · simp [Lib.join_nil]
  · rw [List.map_cons, Lib.join_cons, List.length_append, Lib.joinTail_length]
    have h1 := itoa_len (h y (by simp)).1 (h y (by simp)).2
    have h2 : Lib.lens (l.map Lib.itoa) ≤ 2 * l.length := by
      have h3 : ∀ n ∈ l, 0 ≤ n ∧ n < 32 := fun n hn => h n (List.mem_cons_of_mem _ hn)
      clear h h1
      induction l with
      | nil => simp [Lib.lens]
      | cons z l ih =>
        have hz := itoa_len (h3 z (by simp)).1 (h3 z (by simp)).2
        have := ih (fun n hn => h3 n (List.mem_cons_of_mem _ hn))
        simp only [Lib.lens, List.map_cons, List.sum_cons, List.length_cons] at this ⊢
        omega
    simp only [List.length_map, List.length_cons, List.length_nil]
    omega
theorem bsh_len (x : BitVec 32) : (bsh x).length ≤ 96 := by
  unfold bsh
  split
  · simp
  · have h1 := joins_len (lst x 32) (lst_mem x 32 (by omega))
    have h2 := lst_len x 32
    omega

end Go.Proofs.YtdpghoobdkhilaaDoor

/- bits.Int: what any text is read as; bits.Tens of small numbers. -/
namespace Go.Proofs.YtdpghoobdkhilaaDoor
set_option linter.unusedVariables false
open Go Go.RowKit BitM MskM

theorem tens_small (n : Int) (w : World) (h0 : 0 ≤ n) (h1 : n < 100) : Calls Tryd.prog 36 #[.int .i64 n] w fun e w' => e = .returned (.string (str (Lib.itoa n))) ∧ w = w' := by
  obtain ⟨k, rfl⟩ := Int.eq_ofNat_of_zero_le h0
  have HI := Lib.hid (Tryd.strconv_Itoa_small k (by omega) w)
  have HE : Hid (Lib.itoa (k : Int) = Lib.decDigits k) := Lib.hid (by unfold Lib.itoa; rw [if_neg (by omega), Int.toNat_natCast])
  go_enter Tryd.func36, Tryd.ntmps36
  go_wp2_with fail
  refine HI.out.mono ?_
  rintro e w1 ⟨rfl, rfl⟩
  go_wp2_with fail
  go_ret
  exact ⟨by rw [HE.out]; rfl, rfl⟩

theorem take_byte (s : ByteArray) (k : Nat) (h : k < s.size) : s.data.toList.take (k + 1) = s.data.toList.take k ++ [s[k]] := by
  rw [List.take_succ_eq_append_getElem (by simpa using h)]; rfl

set_option maxRecDepth 100000 in
set_option maxHeartbeats 1600000 in
theorem int_any (s : ByteArray) (most : Int) (w : World) : Calls Tryd.prog 20 #[.string s, .int .i64 most] w fun e w' =>
    e = .returned (.tuple #[.int .i64 (pint s.data.toList most).1, .bool (pint s.data.toList most).2]) ∧ w = w' := by
  have hsz : s.data.toList.length = s.size := by simp
  by_cases h0 : s.size = 0
  · have HP : Hid (pint s.data.toList most = (0, false)) := Lib.hid (by unfold pint; rw [if_pos (Or.inl (List.length_eq_zero_iff.1 (by omega)))])
    have e0 : s.toList = [] := by rw [ByteArray.toList_eq]; exact List.length_eq_zero_iff.1 (by omega)
    go_enter Tryd.func20, Tryd.ntmps20
    go_wp2_with fail
    go_ret2
    exact ⟨by rw [HP.out]; rfl, rfl⟩
  · have hpos : 0 < s.size := by omega
    have e0 : (!s.toList.isEmpty) = true := by
      rw [ByteArray.toList_eq, Bool.not_eq_true', List.isEmpty_eq_false_iff]
      intro e; rw [e] at hsz; simp at hsz; omega
    have e1 : s.toList.isEmpty = false := by simpa using e0
    by_cases h14 : 14 ≤ s.size
    · have HP : Hid (pint s.data.toList most = (0, false)) := Lib.hid (by unfold pint; rw [if_pos (Or.inr (Or.inl (by omega)))])
      have h14i : (14 : Int) ≤ (s.size : Int) := by omega
      clear hsz h0
      go_enter Tryd.func20, Tryd.ntmps20
      go_wp2_with fail
      go_ret2
      exact ⟨by rw [HP.out]; rfl, rfl⟩
    · have h14i : (s.size : Int) < 14 := by omega
      by_cases hz : 1 < s.size ∧ (s[0]'hpos).toNat = 48
      · obtain ⟨hz1, hz2⟩ := hz
        have HP : Hid (pint s.data.toList most = (0, false)) := Lib.hid (by
          unfold pint
          have hh : s.data.toList.headD 0 = 48 := by
            rw [List.headD_eq_head?_getD, List.head?_eq_getElem?, List.getElem?_eq_getElem (by omega)]
            exact UInt8.toNat_inj.1 hz2
          rw [if_pos (Or.inr (Or.inr (Or.inl ⟨by omega, hh⟩)))])
        have hz3 : (1 : Int) < (s.size : Int) := by omega
        have hz4 : (((s[0]'hpos).toNat : Int) == 48) = true := by rw [hz2]; rfl
        clear hsz h0 hz2 h14
        go_enter Tryd.func20, Tryd.ntmps20
        go_wp2_with fail
        go_ret2
        exact ⟨by rw [HP.out]; rfl, rfl⟩
      · have key : s.size ≤ 1 ∨ (1 < s.size ∧ (((s[0]'hpos).toNat : Int) == 48) = false) := by
          by_cases h1 : s.size ≤ 1
          · exact .inl h1
          · refine .inr ⟨by omega, ?_⟩
            rw [beq_eq_false_iff_ne]
            intro e
            exact hz ⟨by omega, by omega⟩
        have HZ : Hid (¬ (1 < s.data.toList.length ∧ s.data.toList.headD 0 = 48)) := Lib.hid (by
          rintro ⟨h1, h2⟩
          apply hz
          refine ⟨by omega, ?_⟩
          have : s.data.toList.headD 0 = s[0] := by
            rw [List.headD_eq_head?_getD, List.head?_eq_getElem?, List.getElem?_eq_getElem (by omega)]
            first | done | rfl
          rw [this] at h2
          rw [h2]; rfl)
        have HNE : Hid (s.data.toList ≠ []) := Lib.hid (by intro e; rw [e] at hsz; simp at hsz; omega)
        have HSZ := Lib.hid hsz
        clear hz h0 hsz
        rcases key with h1 | ⟨h1, h2⟩
        all_goals
          go_enter Tryd.func20, Tryd.ntmps20
          go_wp2_with fail
          clear e0 e1
          go_loop [6, 27] (fun n i => ∃ k m : Nat, k ≤ s.size ∧ i = .int .i64 k ∧ n = .int .i64 m ∧ m < 10000000000000 ∧ Hid (m = num (s.data.toList.take k)) ∧ Hid ((s.data.toList.take k).all dig = true)) (fun _ i => s.size - (intOf i).toNat)
          case atStart => exact ⟨0, 0, Nat.zero_le _, rfl, rfl, by omega, Lib.hid rfl, Lib.hid rfl⟩
          case round =>
            obtain ⟨k, m, hk, rfl, rfl, hm, HM, HD⟩ := hrel
            by_cases hlt : k < s.size
            · have HT := Lib.hid (take_byte s k hlt)
              by_cases hc : 48 ≤ (s[k]'hlt).toNat ∧ (s[k]'hlt).toNat ≤ 57
              · obtain ⟨hc1, hc2⟩ := hc
                have HD2 : Hid ((s.data.toList.take (k + 1)).all dig = true) := Lib.hid (by
                  rw [HT.out, List.all_append, HD.out, Bool.true_and, List.all_cons, List.all_nil, Bool.and_true, dig, decide_eq_true hc1, decide_eq_true hc2]; rfl)
                have HM2 : Hid (10 * m + ((s[k]'hlt).toNat - 48) = num (s.data.toList.take (k + 1))) := Lib.hid (by
                  rw [HT.out, num_snoc, ← HM.out])
                have hm2 : 10 * m + ((s[k]'hlt).toNat - 48) < 10000000000000 := by
                  rw [HM2.out]
                  have := num_lt _ _ rfl HD2.out
                  rw [List.length_take, HSZ.out, Nat.min_eq_left (by omega)] at this
                  exact Nat.lt_of_lt_of_le this (Nat.pow_le_pow_right (by omega) (by omega : k + 1 ≤ 13))
                have hc1' : (48 : Int) ≤ ((s[k]'hlt).toNat : Int) := by omega
                have hc2' : ((s[k]'hlt).toNat : Int) ≤ 57 := by omega
                clear hc1 hc2
                go_wp2_with fail
                go_round
                case rel => exact ⟨k + 1, 10 * m + ((s[k]'hlt).toNat - 48), by omega, by go_num, by go_num, hm2, HM2, HD2⟩
                case measure => simp [intOf]; omega
              · have HP : Hid (pint s.data.toList most = (0, false)) := Lib.hid (by
                  unfold pint
                  rw [if_pos (Or.inr (Or.inr (Or.inr (Or.inl ?_))))]
                  rw [List.all_eq_false]
                  refine ⟨s[k], ?_, ?_⟩
                  · have : s[k] = s.data.toList[k]'(by rw [HSZ.out]; exact hlt) := rfl
                    rw [this]
                    exact List.getElem_mem _
                  · unfold dig
                    intro e
                    simp only [Bool.and_eq_true, decide_eq_true_eq] at e
                    exact hc e)
                by_cases hc1 : 48 ≤ (s[k]'hlt).toNat
                · have hc2 : (57 : Int) < ((s[k]'hlt).toNat : Int) := by omega
                  have hc1' : (48 : Int) ≤ ((s[k]'hlt).toNat : Int) := by omega
                  clear hc hc1
                  go_wp2_with fail
                  go_ret2
                  exact ⟨by rw [HP.out]; rfl, rfl⟩
                · have hc2 : ((s[k]'hlt).toNat : Int) < 48 := by omega
                  clear hc hc1
                  go_wp2_with fail
                  go_ret2
                  exact ⟨by rw [HP.out]; rfl, rfl⟩
            · obtain rfl : k = s.size := by omega
              have hT : s.data.toList.take s.size = s.data.toList := by rw [← HSZ.out, List.take_length]
              have hM := HM.out
              have hD := HD.out
              rw [hT] at hM hD
              by_cases hmo : min most 1099511627776 < (m : Int)
              · have HP : Hid (pint s.data.toList most = (0, false)) := Lib.hid (by
                  unfold pint
                  rw [if_pos (Or.inr (Or.inr (Or.inr (Or.inr (by rw [← hM]; exact hmo)))))])
                have hd : decide (min most 1099511627776 < (m : Int)) = true := decide_eq_true hmo
                clear hT hM hD hmo
                go_wp2_with fail
                go_ret2
                exact ⟨by rw [HP.out]; rfl, rfl⟩
              · have HP : Hid (pint s.data.toList most = ((m : Int), true)) := Lib.hid (by
                  unfold pint
                  rw [if_neg (by
                    rintro (h | h | h | h | h)
                    · exact HNE.out h
                    · have := HSZ.out; omega
                    · exact HZ.out h
                    · rw [hD] at h; cases h
                    · rw [← hM] at h; exact hmo h), ← hM])
                have hd : decide (min most 1099511627776 < (m : Int)) = false := decide_eq_false hmo
                clear hT hM hD hmo
                go_wp2_with fail
                go_ret2
                exact ⟨by rw [HP.out]; rfl, rfl⟩
end Go.Proofs.YtdpghoobdkhilaaDoor

/- Fold, Holds, and texts in quotes: what each returns. -/
namespace Go.Proofs.YtdpghoobdkhilaaDoor
set_option linter.unusedVariables false
open Go Go.RowKit BitM ValM

/-- A block of bytes that a conversion made. -/
def FB (w : World) (g : Nat) (l : List UInt8) : Prop := ∃ (rest : List Value) (e : TypeId), w.heap[g]? = some (.cells (bvs l ++ rest).toArray e ((bvs l ++ rest).length, (bvs l ++ rest).length + 1))
section
variable {w w' : World} {g : Nat} {l : List UInt8}
theorem FB.lt (h : FB w g l) : g < w.heap.size := by
  obtain ⟨r, e, h⟩ := h
  exact (Array.getElem?_eq_some_iff.1 h).1
theorem FB.cell (h : FB w g l) (j : Nat) (hj : j < l.length) : w.cell? ⟨g, j, none⟩ = some (.int .u8 (l[j].toNat : Int)) := by
  obtain ⟨r, e, h⟩ := h
  have hb : j < (bvs l).length := by rw [bvs_length]; exact hj
  simp only [World.cell?, h, List.getElem?_toArray, List.getElem?_append_left hb]
  simp [bvs, bv, hj]
theorem FB.frozen (h : FB w g l) (j : Nat) (hj : j < l.length) : w.frozen? ⟨g, j, none⟩ = false := by
  obtain ⟨r, e, h⟩ := h
  have hb : j < (bvs l).length := by rw [bvs_length]; exact hj
  simp [World.frozen?, h]
  omega
theorem FB.set (h : FB w g l) (j : Nat) (c : UInt8) (hj : j < l.length) : FB (w.setCell ⟨g, j, none⟩ (.int .u8 (c.toNat : Int))) g (l.set j c) := by
  have hlt := h.lt
  obtain ⟨r, e, h⟩ := h
  refine ⟨r, e, ?_⟩
  obtain ⟨h1, h2⟩ := Array.getElem?_eq_some_iff.1 h
  show (w.heap.modify g _)[g]? = _
  rw [Array.getElem?_eq_getElem (by rw [Array.size_modify]; exact hlt), Array.getElem_modify_self, h2]
  have hb : j < (bvs l).length := by rw [bvs_length]; exact hj
  have e1 : bvs (l.set j c) = (bvs l).set j (.int .u8 (c.toNat : Int)) := by simp [bvs, bv, List.map_set]
  rw [e1]
  simp [List.set_append_left _ _ hb]
theorem FB.new (w : World) (e : TypeId) (s : ByteArray) : FB (Lib.bytesWorld w e s) w.heap.size s.data.toList := by
  refine ⟨List.replicate (grownCap w s.size 0 e - s.size) (Value.int .u8 0), e, ?_⟩
  rw [Lib.bytesWorld_at_new]
  have : Lib.bytesCells w e s = (bvs s.data.toList ++ List.replicate (grownCap w s.size 0 e - s.size) (Value.int .u8 0)).toArray := by
    unfold Lib.bytesCells bvs bv
    apply Array.ext'
    simp
  rw [this]
  simp
end
theorem below_bytes (w : World) (e : TypeId) (s : ByteArray) : Below w.heap.size w (Lib.bytesWorld w e s) := by
  refine ⟨?_, ?_, ?_, by rw [Lib.bytesWorld_size]; omega, fun k hk => Lib.bytesWorld_at_old w e s k hk⟩ <;> (unfold Lib.bytesWorld World.freeze; split <;> rfl)
theorem fold_step (l : List UInt8) (k : Nat) (h : k < l.length) : ((l.take k).map lowB ++ l.drop k).set k (lowB l[k]) = (l.take (k + 1)).map lowB ++ l.drop (k + 1) := by
  have hl : ((l.take k).map lowB).length = k := by rw [List.length_map, List.length_take]; omega
  rw [List.set_append_right _ _ (by omega), hl, Nat.sub_self, List.drop_eq_getElem_cons h, List.set_cons_zero, List.take_succ_eq_append_getElem h, List.map_append]
  simp
theorem mid_len (l : List UInt8) (k : Nat) (h : k ≤ l.length) : ((l.take k).map lowB ++ l.drop k).length = l.length := by simp; omega
theorem mid_get (l : List UInt8) (k : Nat) (h : k < l.length) (h2 : k < ((l.take k).map lowB ++ l.drop k).length) : ((l.take k).map lowB ++ l.drop k)[k] = l[k] := by
  have hl : ((l.take k).map lowB).length = k := by rw [List.length_map, List.length_take]; omega
  rw [List.getElem_append_right (by omega)]
  simp only [hl, Nat.sub_self, List.getElem_drop, Nat.add_zero]

end Go.Proofs.YtdpghoobdkhilaaDoor

/- What each frame of this seat asks once: the tables' world, and that the library's MaxLen holds a number. -/
namespace Go.Proofs.YtdpghoobdkhilaaDoor
set_option linter.unusedVariables false
open Go.ChangeShapes Go.WideShapes Go.ChangeAt Go.RowKit

theorem own : ownKnob Tryd.prog.godebug = none := by kernel_rfl
theorem laidOut : laidOutB Tryd.prog = true := by kernel_rfl
theorem boolT : Tryd.prog.underlying 4 = some .bool := Tryd.underlying4
theorem max_int {W : World} (h : W.ShapedOpen Tryd.prog) : ∃ m, W.cell? ⟨0, 0, none⟩ = some (.int .i64 m) :=
  Go.Proofs.cell_of_shapedOpen_int (zero := #[.int .i64 0]) (t := 3) h (of_decide_eq_true (by kernel_rfl)) (by kernel_rfl) rfl (by kernel_rfl) (by kernel_rfl) Tryd.underlying3
theorem max_block {W : World} {m : Int} (h : W.cell? ⟨0, 0, none⟩ = some (.int .i64 m)) : 0 < W.heap.size := by
  rcases Nat.eq_zero_or_pos W.heap.size with e | e
  · exfalso
    have : W.heap[0]? = none := Array.getElem?_eq_none (by omega)
    simp [World.cell?, this] at h
  · exact e
theorem max_later {B : Nat} {W W' : World} {m : Int} (h : W.cell? ⟨0, 0, none⟩ = some (.int .i64 m)) (hb : Below W.heap.size W W') : W'.cell? ⟨0, 0, none⟩ = some (.int .i64 m) :=
  (hb.cell (p := ⟨0, 0, none⟩) (max_block h)).trans h
theorem no_stand (fn : Func) (h : (fn.params.toList.all fun t => !Tryd.pinned.checked.prog.wantsStandIn t) = true) : ∀ (j : Nat) t, fn.params[j]? = some t → Tryd.pinned.checked.prog.wantsStandIn t = false := fun j t ht => by
  have := List.all_eq_true.1 h t (by
    rw [Array.mem_toList_iff]
    exact Array.mem_of_getElem? ht)
  simpa using this
theorem looks_off : false = Tryd.pinned.checked.prog.looks [] := by kernel_rfl
/-- The tables' world: what the initialisers lay. -/
noncomputable def tabWorld (os : Os) : World := World.doorLaid Tryd.prog 34 os
theorem five_met (os : Os) (args : Array Value) : laidMet Tryd.prog Rows.lexWordsRow.laid ((tabWorld os).forCall (fun _ _ => 0) ⟨#[], args, []⟩).memory :=
  laidMet_of_run' 8 (by kernel_rfl) (by kernel_rfl)
end Go.Proofs.YtdpghoobdkhilaaDoor

/- Holds, texts in quotes, values' texts: what each returns; the chapter's examples. -/
namespace Go.Proofs.YtdpghoobdkhilaaDoor
set_option linter.unusedVariables false
open Go Go.RowKit BitM ValM

def MaxV (m : Int) (w : World) : Prop := w.cell? ⟨0, 0, none⟩ = some (.int .i64 m)
theorem MaxV.later {m : Int} {w w' : World} (h : MaxV m w) (hb : Below w.heap.size w w') : MaxV m w' := max_later (B := 0) h hb

theorem info_byte : (Tryd.prog.info? 5).map (fun i => (i.zero, i.size, i.bytes)) = some (some (.int .u8 0), 1, 1) := by kernel_rfl
theorem quo_snoc (l : List UInt8) (k : Nat) (h : k < l.length) : [34] ++ qpl (l.take (k + 1)) = ([34] ++ qpl (l.take k)) ++ esc l[k] := by
  rw [List.take_succ_eq_append_getElem h, qpl_snoc, List.append_assoc]
set_option maxRecDepth 100000 in
set_option maxHeartbeats 3200000 in
theorem quote_plain (s : ByteArray) (w : World) (hs : s.size ≤ 1000) (hp : ∀ c ∈ s.data.toList, 32 ≤ c.toNat ∧ c.toNat ≤ 126) :
    Calls Tryd.prog 37 #[.string s] w fun e w' => e = .returned (.string (str ([34] ++ qpl s.data.toList ++ [34]))) ∧ Below w.heap.size w w' := by
  obtain ⟨i0, hi, hz0, hz1, hz2⟩ := info_parts info_byte
  have HN : Hid (s.data.toList.length = s.size) := Lib.hid (by simp)
  have HP := Lib.hid hp
  obtain ⟨u, hu⟩ : ∃ u, u = str ([34] ++ qpl s.data.toList ++ [34]) := ⟨_, rfl⟩
  rw [← hu]
  have HU := Lib.hid hu
  have HG : Hid (∀ (k : Nat) (h : k < s.size) (h2 : k < s.data.toList.length), s[k] = s.data.toList[k]) := Lib.hid (fun k h h2 => rfl)
  clear hp hu
  go_enter Tryd.func37, Tryd.ntmps37
  go_wp2_with fail
  go_loopw [3, 9] (fun v i wr => ∃ k m : Nat, k ≤ s.size ∧ i = .int .i64 k ∧ m ≤ 2001 ∧ (∃ A1 c1, v = .slice A1 m c1 ∧ Own wr w.heap.size 5 v (bvs ([34] ++ qpl (s.data.toList.take k))) ∧ Hid (m = ([34] ++ qpl (s.data.toList.take k)).length)) ∧ Below w.heap.size w wr) (fun _ i _ => s.size - (intOf i).toNat)
  case atStart => exact ⟨0, 1, Nat.zero_le _, rfl, by omega, ⟨some ⟨w.heap.size, 0, none⟩, 1, rfl, own_lit w w.heap.size 5 #[.int .u8 34] (Nat.le_refl _) (by simp [maxLen]), Lib.hid rfl⟩, (Below.refl _ _).alloc (Nat.le_refl _) _⟩
  case round =>
    obtain ⟨k, m, hk, rfl, hm, ⟨A1, c1, rfl, hown, HM⟩, hbr⟩ := hrel
    obtain ⟨acc, hacc⟩ : ∃ acc, acc = [34] ++ qpl (s.data.toList.take k) := ⟨_, rfl⟩
    rw [← hacc] at hown HM
    have HACC := Lib.hid hacc
    clear hacc
    by_cases hlt : k < s.size
    · have hkl : k < s.data.toList.length := by rw [HN.out]; exact hlt
      have HS := Lib.hid (quo_snoc s.data.toList k hkl)
      rw [← HACC.out, ← HG.out k hlt hkl] at HS
      have hpp := HP.out s.data.toList[k] (List.getElem_mem _)
      rw [← HG.out k hlt hkl] at hpp
      have hm2 : m + 2 ≤ 2001 := by
        have h1 := qpl_len (s.data.toList.take k)
        rw [List.length_take, Nat.min_eq_left (by omega)] at h1
        have h2 := HM.out
        rw [HACC.out, List.length_append] at h2
        simp only [List.length_cons, List.length_nil] at h2
        omega
      have h32 : (32 : Int) ≤ ((s[k]'hlt).toNat : Int) := by omega
      have h126 : ((s[k]'hlt).toNat : Int) ≤ 126 := by omega
      clear hpp
      by_cases hq : s[k] = 34 ∨ s[k] = 92
      · have HE : Hid (esc s[k] = [92] ++ [s[k]]) := Lib.hid (by unfold esc; rw [if_pos hq]; rfl)
        have HS2 : Hid ([34] ++ qpl (s.data.toList.take (k + 1)) = acc ++ [92] ++ [s[k]]) := Lib.hid (by rw [HS.out, HE.out, List.append_assoc])
        have key : (((s[k]'hlt).toNat : Int) == 34) = true ∨ ((((s[k]'hlt).toNat : Int) == 34) = false ∧ (((s[k]'hlt).toNat : Int) == 92) = true) := by
          rcases hq with h | h
          · left; rw [h]; rfl
          · right; rw [h]; exact ⟨rfl, rfl⟩
        clear hq HS HE
        rcases key with b1 | ⟨b1, b2⟩
        all_goals
          go_wp2_with (first
            | (at_builtin
               refine wpList_app _ rfl (.tmp 29) (.tmp 30) _ rfl w.heap.size 5 i0 _ 1 Tryd.underlying59 hi hz0 hz1 hz2 rfl (.slice A1 m c1) (bvs acc) m rfl (by rw [bvs_length, HM.out]) (hown.alloc _) (wr.heap.size + 1) (some ⟨wr.heap.size, 0, none⟩) 1 (bvs [92]) 1 rfl rfl (sees_lit wr _ 5 (0, 0) _ rfl) (bvs_one _) (by simp [maxLen]; omega) (by omega) (by have := hbr.size; simp; omega) ?_
               intro A8 c8 w8 hown8 hb8 hg8 hat8
               rw [← bvs_append] at hown8
               have hbr8 : Below w.heap.size w w8 := (hbr.alloc hbr.size _).trans hb8
               clear hg8 hat8 hb8 hown)
            | (at_builtin
               refine wpList_app _ rfl (.tmp 32) (.tmp 34) _ rfl w.heap.size 5 i0 _ 1 Tryd.underlying59 hi hz0 hz1 hz2 rfl (.slice A8 (m + 1) c8) (bvs (acc ++ [92])) (m + 1) rfl (by rw [bvs_length, List.length_append, HM.out]; first | done | rfl) (hown8.alloc _) (w8.heap.size + 1) (some ⟨w8.heap.size, 0, none⟩) 1 (bvs [s[k]]) 1 rfl rfl (sees_lit w8 _ 5 (0, 0) _ rfl) (bvs_one _) (by simp [maxLen]; omega) (by omega) (by have := hbr8.size; simp; omega) ?_
               intro A9 c9 w9 hown9 hb9 hg9 hat9)
            | fail)
          rw [← bvs_append, ← HS2.out] at hown9
          have hbr9 : Below w.heap.size w w9 := (hbr8.alloc hbr8.size _).trans hb9
          go_roundw
          case rel => exact ⟨k + 1, m + 1 + 1, by omega, by go_num, by omega, ⟨A9, c9, rfl, hown9, Lib.hid (by rw [HS2.out, List.length_append, List.length_append, HM.out]; first | done | rfl)⟩, hbr9⟩
          case measure => simp [intOf]; omega
      · have HE : Hid (esc s[k] = [s[k]]) := Lib.hid (by unfold esc; rw [if_neg hq])
        have HS2 : Hid ([34] ++ qpl (s.data.toList.take (k + 1)) = acc ++ [s[k]]) := Lib.hid (by rw [HS.out, HE.out])
        have b1 : (((s[k]'hlt).toNat : Int) == 34) = false := by
          rw [beq_eq_false_iff_ne]; intro e
          exact hq (.inl (UInt8.toNat_inj.1 (by have : (34 : UInt8).toNat = 34 := rfl; omega)))
        have b2 : (((s[k]'hlt).toNat : Int) == 92) = false := by
          rw [beq_eq_false_iff_ne]; intro e
          exact hq (.inr (UInt8.toNat_inj.1 (by have : (92 : UInt8).toNat = 92 := rfl; omega)))
        clear hq HS HE
        go_wp2_with (first
          | (at_builtin
             refine wpList_app _ rfl (.tmp 32) (.tmp 34) _ rfl w.heap.size 5 i0 _ 1 Tryd.underlying59 hi hz0 hz1 hz2 rfl (.slice A1 m c1) (bvs acc) m rfl (by rw [bvs_length, HM.out]) (hown.alloc _) (wr.heap.size + 1) (some ⟨wr.heap.size, 0, none⟩) 1 (bvs [s[k]]) 1 rfl rfl (sees_lit wr _ 5 (0, 0) _ rfl) (bvs_one _) (by simp [maxLen]; omega) (by omega) (by have := hbr.size; simp; omega) ?_
             intro A9 c9 w9 hown9 hb9 hg9 hat9)
          | fail)
        rw [← bvs_append, ← HS2.out] at hown9
        have hbr9 : Below w.heap.size w w9 := (hbr.alloc hbr.size _).trans hb9
        go_roundw
        case rel => exact ⟨k + 1, m + 1, by omega, by go_num, by omega, ⟨A9, c9, rfl, hown9, Lib.hid (by rw [HS2.out, List.length_append, HM.out]; first | done | rfl)⟩, hbr9⟩
        case measure => simp [intOf]; omega
    · obtain rfl : k = s.size := by omega
      have HA2 : Hid (acc = [34] ++ qpl s.data.toList) := Lib.hid (by rw [HACC.out, ← HN.out, List.take_length])
      go_wp2_with (first
        | (at_builtin
           refine wpList_app _ rfl (.tmp 46) (.tmp 47) _ rfl w.heap.size 5 i0 _ 1 Tryd.underlying59 hi hz0 hz1 hz2 rfl (.slice A1 m c1) (bvs acc) m rfl (by rw [bvs_length, HM.out]) (hown.alloc _) (wr.heap.size + 1) (some ⟨wr.heap.size, 0, none⟩) 1 (bvs [34]) 1 rfl rfl (sees_lit wr _ 5 (0, 0) _ rfl) (bvs_one _) (by simp [maxLen]; omega) (by omega) (by have := hbr.size; simp; omega) ?_
           intro A9 c9 w9 hown9 hb9 hg9 hat9
           rw [← bvs_append] at hown9
           have hcv := run_str (P := Tryd.prog) w9 w9.heap.size 59 5 9 Tryd.underlying59 Tryd.underlying5 Tryd.underlying9 A9 (m + 1) c9 (acc ++ [34]) (by rw [List.length_append, HM.out]; first | done | rfl) hown9.sees
           rw [HA2.out, ← HU.out] at hcv
           clear hown9)
        | fail)
      have hbr9 : Below w.heap.size w w9 := (hbr.alloc hbr.size _).trans hb9
      go_ret
      exact ⟨rfl, hbr9⟩
end Go.Proofs.YtdpghoobdkhilaaDoor

/- Texts of any bytes in quotes: the mathematics. -/
namespace Go.Proofs.YtdpghoobdkhilaaDoor
open Go
namespace ValM

/-- A digit of base 16. -/
def hexd (n : Nat) : UInt8 := if n < 10 then UInt8.ofNat (48 + n) else UInt8.ofNat (87 + n)
/-- How a byte stands in a text. -/
def escg (c : UInt8) : List UInt8 := if c.toNat < 32 ∨ 126 < c.toNat then [92, 120, hexd (c.toNat / 16), hexd (c.toNat % 16)] else esc c
def qug (l : List UInt8) : List UInt8 := l.flatMap escg
def quo (l : List UInt8) : List UInt8 := [34] ++ qug l ++ [34]
theorem escg_len (c : UInt8) : 1 ≤ (escg c).length ∧ (escg c).length ≤ 4 := by
  unfold escg esc
  split
  · simp
  · split <;> simp
theorem qug_snoc (l : List UInt8) (c : UInt8) : qug (l ++ [c]) = qug l ++ escg c := by simp [qug]
theorem qug_cons (l : List UInt8) (c : UInt8) : qug (c :: l) = escg c ++ qug l := by simp [qug]
theorem qug_append (l m : List UInt8) : qug (l ++ m) = qug l ++ qug m := by simp [qug]
theorem qug_len (l : List UInt8) : (qug l).length ≤ 4 * l.length := by
  induction l with
  | nil => simp [qug]
  | cons x l ih =>
    have := (escg_len x).2
    rw [qug_cons, List.length_append, List.length_cons]
    omega
theorem quog_snoc (l : List UInt8) (k : Nat) (h : k < l.length) : [34] ++ qug (l.take (k + 1)) = ([34] ++ qug (l.take k)) ++ escg l[k] := by
  rw [List.take_succ_eq_append_getElem h, qug_snoc, List.append_assoc]
theorem hexd_inj {m n : Nat} (hm : m < 16) (hn : n < 16) (h : hexd m = hexd n) : m = n := by
  have key : ∀ m : Fin 16, ∀ n : Fin 16, hexd m.val = hexd n.val → m = n := by decide +kernel
  exact Fin.ext_iff.1 (key ⟨m, hm⟩ ⟨n, hn⟩ h)
/-- Three kinds of bytes. -/
theorem escg_kinds (c : UInt8) : (escg c = [c] ∧ c ≠ 92 ∧ c ≠ 34) ∨ (escg c = [92, c] ∧ (c = 34 ∨ c = 92)) ∨ (escg c = [92, 120, hexd (c.toNat / 16), hexd (c.toNat % 16)] ∧ (c.toNat < 32 ∨ 126 < c.toNat)) := by
  unfold escg
  by_cases h : c.toNat < 32 ∨ 126 < c.toNat
  · rw [if_pos h]; exact .inr (.inr ⟨rfl, h⟩)
  · rw [if_neg h]
    unfold esc
    by_cases k : c = 34 ∨ c = 92
    · rw [if_pos k]; exact .inr (.inl ⟨rfl, k⟩)
    · rw [if_neg k]; exact .inl ⟨rfl, fun e => k (.inr e), fun e => k (.inl e)⟩
theorem escg_inj {a b : UInt8} {s t : List UInt8} (h : escg a ++ s = escg b ++ t) : a = b ∧ s = t := by
  rcases escg_kinds a with ⟨ea, ha, ha2⟩ | ⟨ea, ha⟩ | ⟨ea, ha⟩ <;> rcases escg_kinds b with ⟨eb, hb, hb2⟩ | ⟨eb, hb⟩ | ⟨eb, hb⟩ <;> rw [ea, eb] at h <;> simp only [List.cons_append, List.nil_append, List.cons.injEq] at h
  · exact h
  · exact absurd h.1 ha
  · exact absurd h.1 ha
  · exact absurd h.1.symm hb
  · exact ⟨h.2.1, h.2.2⟩
  · rcases ha with rfl | rfl <;> exact absurd h.2.1 (by decide)
  · exact absurd h.1.symm hb
  · rcases hb with rfl | rfl <;> exact absurd h.2.1 (by decide)
  · obtain ⟨_, _, h1, h2, h3⟩ := h
    have la := UInt8.toNat_lt a
    have lb := UInt8.toNat_lt b
    have e1 := hexd_inj (by omega) (by omega) h1
    have e2 := hexd_inj (by omega) (by omega) h2
    exact ⟨UInt8.toNat_inj.1 (by omega), h3⟩
theorem escg_not_end (a : UInt8) (s : List UInt8) : escg a ++ s ≠ [34] := by
  rcases escg_kinds a with ⟨ea, ha, ha2⟩ | ⟨ea, ha⟩ | ⟨ea, ha⟩ <;> rw [ea] <;> intro h <;> simp at h
  exact ha2 h.1
theorem qug_inj : ∀ {l m : List UInt8}, qug l ++ [34] = qug m ++ [34] → l = m
  | [], [], _ => rfl
  | [], b :: m, h => by
    rw [qug_cons, List.append_assoc] at h
    exact absurd h.symm (escg_not_end b _)
  | a :: l, [], h => by
    rw [qug_cons, List.append_assoc] at h
    exact absurd h (escg_not_end a _)
  | a :: l, b :: m, h => by
    rw [qug_cons, qug_cons, List.append_assoc, List.append_assoc] at h
    obtain ⟨rfl, h2⟩ := escg_inj h
    rw [qug_inj h2]
theorem quo_inj {l m : List UInt8} (h : quo l = quo m) : l = m := by
  unfold quo at h
  rw [List.append_assoc, List.append_assoc] at h
  exact qug_inj (List.append_cancel_left h)
def hexs : ByteArray := ⟨#[48, 49, 50, 51, 52, 53, 54, 55, 56, 57, 97, 98, 99, 100, 101, 102]⟩
theorem hexs_at (n : Nat) (h : n < 16) : hexs.data[n]? = some (hexd n) := by
  have key : ∀ n : Fin 16, hexs.data[n.val]? = some (hexd n.val) := by decide +kernel
  exact key ⟨n, h⟩
theorem hexs_index (n : Nat) (h : n < 16) : Lib.indexByte hexs.data.toList (hexd n) = (n : Int) := by
  have key : ∀ n : Fin 16, Lib.indexByte hexs.data.toList (hexd n.val) = ((n.val : Nat) : Int) := by decide +kernel
  exact key ⟨n, h⟩
end ValM
end Go.Proofs.YtdpghoobdkhilaaDoor

/- Quote of any bytes: what it returns. -/
namespace Go.Proofs.YtdpghoobdkhilaaDoor
set_option linter.unusedVariables false
open Go Go.RowKit BitM ValM

theorem Own.later {w w' : World} {base : Nat} {e : TypeId} {v : Value} {xs : List Value} (h : Own w base e v xs) (hl : Le w w') : Own w' base e v xs := by
  refine ⟨h.1, ?_⟩
  rcases h.2 with h0 | ⟨g, cap, cur, e1, hb, hh, r⟩
  · exact .inl h0
  · exact .inr ⟨g, cap, cur, e1, hb, (hl.block g (Array.getElem?_eq_some_iff.1 hh).1).trans hh, r⟩
/-- A slot that holds a new row of bytes. -/
def relBts (l : List UInt8) : Rel where
  rel x w := ∃ g, x = .slice (some ⟨g, 0, none⟩) l.length l.length ∧ Blk w g (bvs l)
  mono := fun x w w' h ⟨g, e, hr⟩ => ⟨g, e, hr.later h⟩
  real := fun w ⟨g, e, _⟩ => by cases e
theorem Blk.seesBts {w : World} {g : Nat} {l : List UInt8} (h : Blk w g (bvs l)) : Sees w w.heap.size (some ⟨g, 0, none⟩) (bvs l) := fun _ => by
  refine ⟨g, 0, rfl, h.lt, fun j hj => ?_⟩
  rw [Nat.zero_add]
  exact h.cell (List.getElem?_eq_getElem hj)
theorem hexs_getI (x : Int) (n : Nat) (hx : x = n) (h : n < 16) (h2 : x.toNat < (⟨#[48, 49, 50, 51, 52, 53, 54, 55, 56, 57, 97, 98, 99, 100, 101, 102]⟩ : ByteArray).size) :
    ((((⟨#[48, 49, 50, 51, 52, 53, 54, 55, 56, 57, 97, 98, 99, 100, 101, 102]⟩ : ByteArray)[x.toNat]'h2).toNat : Nat) : Int) = (((hexd n).toNat : Nat) : Int) := by
  subst hx
  have key : ∀ n : Fin 16, (⟨#[48, 49, 50, 51, 52, 53, 54, 55, 56, 57, 97, 98, 99, 100, 101, 102]⟩ : ByteArray)[n.val]'(n.isLt) = hexd n.val := by decide +kernel
  have := key ⟨n, h⟩
  simp only [Int.toNat_natCast]
  exact congrArg (fun c : UInt8 => ((c.toNat : Nat) : Int)) this
theorem and15 (m : Nat) (h : m < 256) : bits .and .u8 (m : Int) 15 = ((m % 16 : Nat) : Int) := by
  have key : ∀ m : Fin 256, bits .and .u8 ((m.val : Nat) : Int) 15 = ((m.val % 16 : Nat) : Int) := by decide +kernel
  exact key ⟨m, h⟩
theorem run_bts4 (p q : Int) (w : World) : (Instr.buildSlice 59 4 #[(0, .int .u8 92), (1, .int .u8 120), (2, .int .u8 p), (3, .int .u8 q)]).run Tryd.prog w = .ok (.slice (some ⟨w.heap.size, 0, none⟩) 4 4) (w.alloc (.cells #[.int .u8 92, .int .u8 120, .int .u8 p, .int .u8 q] 5)) := by kernel_rfl
theorem bts4_gives {a : Act} {op : Oper} (y z : Operand) (p q : UInt8) (ho : op.op = .buildSlice 59 4 #[(0, .const (.int .u8 92)), (1, .const (.int .u8 120)), (2, y), (3, z)]) (hy : a.eval y = .int .u8 (p.toNat : Int)) (hz : a.eval z = .int .u8 (q.toNat : Int)) (w : World) : gives Tryd.prog op a (relBts [92, 120, p, q]).rel w := by
  have e1 : a.eval (.const (.int .u8 92)) = .int .u8 92 := rfl
  have e2 : a.eval (.const (.int .u8 120)) = .int .u8 120 := rfl
  unfold gives execOp
  simp only [ho, List.map_toArray, List.map_cons, List.map_nil, hy, hz, e1, e2, Sem.run_bind, run_bts4, Result.andThen_ok, Sem.run_pure]
  exact ⟨(Below.refl _ _).alloc (Nat.le_refl _) _, _, rfl, Blk.new w (bvs [92, 120, p, q]) _⟩

set_option maxRecDepth 100000 in
set_option maxHeartbeats 3200000 in
theorem quote_any (s : ByteArray) (w : World) (hs : s.size ≤ 1000) :
    Calls Tryd.prog 37 #[.string s] w fun e w' => e = .returned (.string (str (quo s.data.toList))) ∧ Below w.heap.size w w' := by
  obtain ⟨i0, hi, hz0, hz1, hz2⟩ := info_parts info_byte
  have HN : Hid (s.data.toList.length = s.size) := Lib.hid (by simp)
  obtain ⟨u, hu⟩ : ∃ u, u = str (quo s.data.toList) := ⟨_, rfl⟩
  rw [← hu]
  have HU : Hid (u = str ([34] ++ qug s.data.toList ++ [34])) := Lib.hid hu
  have HG : Hid (∀ (k : Nat) (h : k < s.size) (h2 : k < s.data.toList.length), s[k] = s.data.toList[k]) := Lib.hid (fun k h h2 => rfl)
  clear hu
  go_enter Tryd.func37, Tryd.ntmps37
  go_wp2_with fail
  go_loopw [3, 9] (fun v i wr => ∃ k m : Nat, k ≤ s.size ∧ i = .int .i64 k ∧ m ≤ 4001 ∧ (∃ A1 c1, v = .slice A1 m c1 ∧ Own wr w.heap.size 5 v (bvs ([34] ++ qug (s.data.toList.take k))) ∧ Hid (m = ([34] ++ qug (s.data.toList.take k)).length)) ∧ Below w.heap.size w wr) (fun _ i _ => s.size - (intOf i).toNat)
  case atStart => exact ⟨0, 1, Nat.zero_le _, rfl, by omega, ⟨some ⟨w.heap.size, 0, none⟩, 1, rfl, own_lit w w.heap.size 5 #[.int .u8 34] (Nat.le_refl _) (by simp [maxLen]), Lib.hid rfl⟩, (Below.refl _ _).alloc (Nat.le_refl _) _⟩
  case round =>
    obtain ⟨k, m, hk, rfl, hm, ⟨A1, c1, rfl, hown, HM⟩, hbr⟩ := hrel
    obtain ⟨acc, hacc⟩ : ∃ acc, acc = [34] ++ qug (s.data.toList.take k) := ⟨_, rfl⟩
    rw [← hacc] at hown HM
    have HACC := Lib.hid hacc
    clear hacc
    by_cases hlt : k < s.size
    · have hkl : k < s.data.toList.length := by rw [HN.out]; exact hlt
      have HS := Lib.hid (quog_snoc s.data.toList k hkl)
      rw [← HACC.out, ← HG.out k hlt hkl] at HS
      have hm2 : m + 4 ≤ 4001 := by
        have h1 := qug_len (s.data.toList.take k)
        rw [List.length_take, Nat.min_eq_left (by omega)] at h1
        have h2 := HM.out
        rw [HACC.out, List.length_append] at h2
        simp only [List.length_cons, List.length_nil] at h2
        omega
      by_cases hpx : s[k].toNat < 32 ∨ 126 < s[k].toNat
      · have HE : Hid (escg s[k] = [92, 120, hexd (s[k].toNat / 16), hexd (s[k].toNat % 16)]) := Lib.hid (by unfold escg; rw [if_pos hpx])
        have HS2 : Hid ([34] ++ qug (s.data.toList.take (k + 1)) = acc ++ [92, 120, hexd (s[k].toNat / 16), hexd (s[k].toNat % 16)]) := Lib.hid (by rw [HS.out, HE.out])
        have h256 := UInt8.toNat_lt s[k]
        have b1 : (((s[k]'hlt).toNat : Int) == 34) = false := by rw [beq_eq_false_iff_ne]; omega
        have b2 : (((s[k]'hlt).toNat : Int) == 92) = false := by rw [beq_eq_false_iff_ne]; omega
        have key : ¬ ((32 : Int) ≤ ((s[k]'hlt).toNat : Int)) ∨ ((32 : Int) ≤ ((s[k]'hlt).toNat : Int) ∧ ¬ ((s[k]'hlt).toNat : Int) ≤ 126) := by omega
        clear HS HE hpx
        rcases key with h32 | ⟨h32, h126⟩
        all_goals
          go_wp2_with fail
          refine wp_region_tail [(43, relBts [92, 120, hexd (s[k].toNat / 16), hexd (s[k].toNat % 16)])] 50 8 (by kernel_rfl) (by kernel_rfl) (by kernel_rfl) (by rfl) ?_
          simp only [List.take_succ_cons, List.take_zero, List.drop_succ_cons, List.drop_zero]
          iterate 2 (refine wpG_quiet (by rfl) (by rfl) (by rfl) (fun K hK => ?_); go_big_quiet_op; refine hK _ ?_; clear hK K)
          refine wpG_run (by rfl) (by rfl) (.int .u8 ((s[k].toNat / 16 : Nat) : Int)) (fun w1 hl => by simp [go_sem]) ?_
          simp only [Act.put, List.setIfInBounds_toArray, List.set_cons_zero, List.set_cons_succ]
          refine wpG_run (by rfl) (by rfl) (.int .u8 ((hexd (s[k].toNat / 16)).toNat : Int)) (fun w1 hl => by simp [go_sem]; rw [dif_pos (by omega)]; exact congrArg (fun v => Result.ok (Next.value (Value.int .u8 v)) w1) (hexs_getI _ (s[k].toNat / 16) (by omega) (by omega) _)) ?_
          simp only [Act.put, List.setIfInBounds_toArray, List.set_cons_zero, List.set_cons_succ]
          iterate 1 (refine wpG_quiet (by rfl) (by rfl) (by rfl) (fun K hK => ?_); go_big_quiet_op; refine hK _ ?_; clear hK K)
          refine wpG_run (by rfl) (by rfl) (.int .u8 ((s[k].toNat % 16 : Nat) : Int)) (fun w1 hl => by simp [go_sem]; exact (and15 _ h256).trans (by omega)) ?_
          simp only [Act.put, List.setIfInBounds_toArray, List.set_cons_zero, List.set_cons_succ]
          refine wpG_run (by rfl) (by rfl) (.int .u8 ((hexd (s[k].toNat % 16)).toNat : Int)) (fun w1 hl => by simp [go_sem]; rw [dif_pos (by omega)]; exact congrArg (fun v => Result.ok (Next.value (Value.int .u8 v)) w1) (hexs_getI _ (s[k].toNat % 16) (by omega) (by omega) _)) ?_
          simp only [Act.put, List.setIfInBounds_toArray, List.set_cons_zero, List.set_cons_succ]
          refine wpG_open (relBts _) (by rfl) (by rfl) (fun w1 hl => bts4_gives (.tmp 39) (.tmp 42) _ _ rfl rfl rfl w1) ?_
          rintro _ ⟨_, _, _, ⟨g, rfl, _⟩⟩
          simp only [Act.put, List.setIfInBounds_toArray, List.set_cons_zero, List.set_cons_succ]
          refine wpG_nil fun w1 hl hs1 => ?_
          obtain ⟨_, g', eg, hB⟩ := hs1
          obtain rfl : g = g' := by injection eg with eg; injection eg with eg; injection eg
          have hown1 := hown.later hl
          have hbr1 := hbr.trans (hl.mono hbr.size)
          refine wpList_app _ rfl (.tmp 36) (.tmp 43) _ rfl w.heap.size 5 i0 _ 1 Tryd.underlying59 hi hz0 hz1 hz2 rfl (.slice A1 m c1) (bvs acc) m rfl (by rw [bvs_length, HM.out]) hown1 w1.heap.size (some ⟨g, 0, none⟩) 4 (bvs [92, 120, hexd (s[k].toNat / 16), hexd (s[k].toNat % 16)]) 4 rfl rfl hB.seesBts (bvs_one _) (by simp [maxLen]; omega) (by omega) hbr1.size ?_
          intro A9 c9 w9 hown9 hb9 hg9 hat9
          rw [← bvs_append, ← HS2.out] at hown9
          have hbr9 : Below w.heap.size w w9 := hbr1.trans hb9
          clear hg9 hat9 hb9 hown1 hbr1 hB hown hl hbr
          simp only [Act.put]
          go_wp2_with fail
          go_roundw
          case rel => exact ⟨k + 1, m + 4, by omega, by go_num, by omega, ⟨A9, c9, rfl, hown9, Lib.hid (by rw [HS2.out, List.length_append, HM.out]; first | done | rfl)⟩, hbr9⟩
          case measure => simp [intOf]; omega
      have h32 : (32 : Int) ≤ ((s[k]'hlt).toNat : Int) := by omega
      have h126 : ((s[k]'hlt).toNat : Int) ≤ 126 := by omega
      clear hpx
      by_cases hq : s[k] = 34 ∨ s[k] = 92
      · have HE : Hid (escg s[k] = [92] ++ [s[k]]) := Lib.hid (by unfold escg esc; rw [if_neg (by omega), if_pos hq]; rfl)
        have HS2 : Hid ([34] ++ qug (s.data.toList.take (k + 1)) = acc ++ [92] ++ [s[k]]) := Lib.hid (by rw [HS.out, HE.out, List.append_assoc])
        have key : (((s[k]'hlt).toNat : Int) == 34) = true ∨ ((((s[k]'hlt).toNat : Int) == 34) = false ∧ (((s[k]'hlt).toNat : Int) == 92) = true) := by
          rcases hq with h | h
          · left; rw [h]; rfl
          · right; rw [h]; exact ⟨rfl, rfl⟩
        clear hq HS HE
        rcases key with b1 | ⟨b1, b2⟩
        all_goals
          go_wp2_with (first
            | (at_builtin
               refine wpList_app _ rfl (.tmp 29) (.tmp 30) _ rfl w.heap.size 5 i0 _ 1 Tryd.underlying59 hi hz0 hz1 hz2 rfl (.slice A1 m c1) (bvs acc) m rfl (by rw [bvs_length, HM.out]) (hown.alloc _) (wr.heap.size + 1) (some ⟨wr.heap.size, 0, none⟩) 1 (bvs [92]) 1 rfl rfl (sees_lit wr _ 5 (0, 0) _ rfl) (bvs_one _) (by simp [maxLen]; omega) (by omega) (by have := hbr.size; simp; omega) ?_
               intro A8 c8 w8 hown8 hb8 hg8 hat8
               rw [← bvs_append] at hown8
               have hbr8 : Below w.heap.size w w8 := (hbr.alloc hbr.size _).trans hb8
               clear hg8 hat8 hb8 hown)
            | (at_builtin
               refine wpList_app _ rfl (.tmp 32) (.tmp 34) _ rfl w.heap.size 5 i0 _ 1 Tryd.underlying59 hi hz0 hz1 hz2 rfl (.slice A8 (m + 1) c8) (bvs (acc ++ [92])) (m + 1) rfl (by rw [bvs_length, List.length_append, HM.out]; first | done | rfl) (hown8.alloc _) (w8.heap.size + 1) (some ⟨w8.heap.size, 0, none⟩) 1 (bvs [s[k]]) 1 rfl rfl (sees_lit w8 _ 5 (0, 0) _ rfl) (bvs_one _) (by simp [maxLen]; omega) (by omega) (by have := hbr8.size; simp; omega) ?_
               intro A9 c9 w9 hown9 hb9 hg9 hat9)
            | fail)
          rw [← bvs_append, ← HS2.out] at hown9
          have hbr9 : Below w.heap.size w w9 := (hbr8.alloc hbr8.size _).trans hb9
          go_roundw
          case rel => exact ⟨k + 1, m + 1 + 1, by omega, by go_num, by omega, ⟨A9, c9, rfl, hown9, Lib.hid (by rw [HS2.out, List.length_append, List.length_append, HM.out]; first | done | rfl)⟩, hbr9⟩
          case measure => simp [intOf]; omega
      · have HE : Hid (escg s[k] = [s[k]]) := Lib.hid (by unfold escg esc; rw [if_neg (by omega), if_neg hq])
        have HS2 : Hid ([34] ++ qug (s.data.toList.take (k + 1)) = acc ++ [s[k]]) := Lib.hid (by rw [HS.out, HE.out])
        have b1 : (((s[k]'hlt).toNat : Int) == 34) = false := by
          rw [beq_eq_false_iff_ne]; intro e
          exact hq (.inl (UInt8.toNat_inj.1 (by have : (34 : UInt8).toNat = 34 := rfl; omega)))
        have b2 : (((s[k]'hlt).toNat : Int) == 92) = false := by
          rw [beq_eq_false_iff_ne]; intro e
          exact hq (.inr (UInt8.toNat_inj.1 (by have : (92 : UInt8).toNat = 92 := rfl; omega)))
        clear hq HS HE
        go_wp2_with (first
          | (at_builtin
             refine wpList_app _ rfl (.tmp 32) (.tmp 34) _ rfl w.heap.size 5 i0 _ 1 Tryd.underlying59 hi hz0 hz1 hz2 rfl (.slice A1 m c1) (bvs acc) m rfl (by rw [bvs_length, HM.out]) (hown.alloc _) (wr.heap.size + 1) (some ⟨wr.heap.size, 0, none⟩) 1 (bvs [s[k]]) 1 rfl rfl (sees_lit wr _ 5 (0, 0) _ rfl) (bvs_one _) (by simp [maxLen]; omega) (by omega) (by have := hbr.size; simp; omega) ?_
             intro A9 c9 w9 hown9 hb9 hg9 hat9)
          | fail)
        rw [← bvs_append, ← HS2.out] at hown9
        have hbr9 : Below w.heap.size w w9 := (hbr.alloc hbr.size _).trans hb9
        go_roundw
        case rel => exact ⟨k + 1, m + 1, by omega, by go_num, by omega, ⟨A9, c9, rfl, hown9, Lib.hid (by rw [HS2.out, List.length_append, HM.out]; first | done | rfl)⟩, hbr9⟩
        case measure => simp [intOf]; omega
    · obtain rfl : k = s.size := by omega
      have HA2 : Hid (acc = [34] ++ qug s.data.toList) := Lib.hid (by rw [HACC.out, ← HN.out, List.take_length])
      go_wp2_with (first
        | (at_builtin
           refine wpList_app _ rfl (.tmp 46) (.tmp 47) _ rfl w.heap.size 5 i0 _ 1 Tryd.underlying59 hi hz0 hz1 hz2 rfl (.slice A1 m c1) (bvs acc) m rfl (by rw [bvs_length, HM.out]) (hown.alloc _) (wr.heap.size + 1) (some ⟨wr.heap.size, 0, none⟩) 1 (bvs [34]) 1 rfl rfl (sees_lit wr _ 5 (0, 0) _ rfl) (bvs_one _) (by simp [maxLen]; omega) (by omega) (by have := hbr.size; simp; omega) ?_
           intro A9 c9 w9 hown9 hb9 hg9 hat9
           rw [← bvs_append] at hown9
           have hcv := run_str (P := Tryd.prog) w9 w9.heap.size 59 5 9 Tryd.underlying59 Tryd.underlying5 Tryd.underlying9 A9 (m + 1) c9 (acc ++ [34]) (by rw [List.length_append, HM.out]; first | done | rfl) hown9.sees
           rw [HA2.out, ← HU.out] at hcv
           clear hown9)
        | fail)
      have hbr9 : Below w.heap.size w w9 := (hbr.alloc hbr.size _).trans hb9
      go_ret
      exact ⟨rfl, hbr9⟩
end Go.Proofs.YtdpghoobdkhilaaDoor

/- What each frame of this seat asks once. -/
namespace Go.Proofs.YtdpghoobdkhilaaDoor
end Go.Proofs.YtdpghoobdkhilaaDoor

/- Texts of numbers, where Go's table of powers stands as laid. -/
namespace Go.Proofs.YtdpghoobdkhilaaDoor
set_option linter.unusedVariables false
open Go Go.RowKit

def Tab (w : World) : Prop := Lib.TabIs Tryd.prog w "internal/strconv.uint64pow10" .u64 Lib.pow10Tab
theorem Tab.later {w w' : World} (h : Tab w) (hb : Below w.heap.size w w') : Tab w' := by
  unfold Tab Lib.TabIs World.var? at h ⊢
  cases hg : Tryd.prog.globalNamed "internal/strconv.uint64pow10" with
  | none => rw [hg] at h; cases h
  | some g =>
    rw [hg] at h
    simp only [Option.bind_some] at h ⊢
    have hlt : g < w.heap.size := by
      rcases Nat.lt_or_ge g w.heap.size with h' | h'
      · exact h'
      · rw [Array.getElem?_eq_none h'] at h; cases h
    rw [hb.block g hlt]
    exact h
theorem below_grow {w w2 : World} (h : ∃ k os, w2 = «Sort».grow (w.drewN k) os) : Below w.heap.size w w2 := by
  obtain ⟨k, os, rfl⟩ := h
  refine ⟨rfl, rfl, rfl, ?_, fun j hj => ?_⟩
  · show w.heap.size ≤ (w.heap ++ os).size
    rw [Array.size_append]; omega
  · show (w.heap ++ os)[j]? = w.heap[j]?
    exact Array.getElem?_append_left hj
theorem tens_any (n : Int) (w : World) (h0 : -9223372036854775808 ≤ n) (h1 : n ≤ 9223372036854775807) (ht : Tab w) : Calls Tryd.prog 36 #[.int .i64 n] w fun e w' => e = .returned (.string (str (Lib.itoa n))) ∧ Below w.heap.size w w' := by
  have HI := Lib.hid (Tryd.strconv_Itoa n h0 h1 w ht)
  have HE : Hid ((⟨(Lib.itoa n).toArray⟩ : ByteArray) = str (Lib.itoa n)) := Lib.hid rfl
  rw [HE.out] at HI
  clear HE
  obtain ⟨u, hu⟩ : ∃ u, u = str (Lib.itoa n) := ⟨_, rfl⟩
  rw [← hu] at HI ⊢
  clear hu ht
  go_enter Tryd.func36, Tryd.ntmps36
  go_wp2_with fail
  refine HI.out.mono ?_
  rintro e w1 ⟨rfl, hg⟩
  have hb := below_grow hg
  clear hg
  go_wp2_with fail
  go_ret
  exact ⟨rfl, hb⟩

end Go.Proofs.YtdpghoobdkhilaaDoor
