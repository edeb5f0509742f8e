/- Filters as lists of nodes: which nodes may be, where trees end, how deep they are: mathematics. -/
import Derived.Test.YtadmaalhhigbeaaCardB
namespace Go.Proofs.Ytadmaalhhigbeaa
set_option linter.unusedVariables false
set_option linter.unusedSimpArgs false
open Go Go.RowKit

/-- A node: its kind, its number, its value. -/
abbrev Nd := Int × Int × V3
def ncells (n : Nd) : List Value := [.int .i64 n.1, .int .i64 n.2.1, .int .i64 n.2.2.1, .int .i64 n.2.2.2.1, .string n.2.2.2.2]
def ncs (l : List Nd) : List Value := l.flatMap ncells
theorem ncells_len (n : Nd) : (ncells n).length = 5 := rfl
theorem ncells_of (n : Nd) : ncells n = [.int .i64 n.1, .int .i64 n.2.1] ++ vcells n.2.2 := rfl
theorem ncs_cons (n : Nd) (l : List Nd) : ncs (n :: l) = ncells n ++ ncs l := rfl
theorem ncs_append (l m : List Nd) : ncs (l ++ m) = ncs l ++ ncs m := by simp [ncs]
theorem ncs_len (l : List Nd) : (ncs l).length = 5 * l.length := by
  induction l with
  | nil => rfl
  | cons n l ih => rw [ncs_cons, List.length_append, ih, ncells_len, List.length_cons]; omega
theorem ncs_one (l : List Nd) : ∀ u ∈ ncs l, u.oneCell' = true := by
  intro u hu
  simp only [ncs, List.mem_flatMap, ncells] at hu
  obtain ⟨v, _, hv⟩ := hu
  simp at hv
  rcases hv with rfl | rfl | rfl | rfl | rfl <;> rfl
theorem ncs_drop (l : List Nd) (k : Nat) : (ncs l).drop (5 * k) = ncs (l.drop k) := by
  induction l generalizing k with
  | nil => simp [ncs]
  | cons n l ih =>
    cases k with
    | zero => simp
    | succ k =>
      rw [ncs_cons, List.drop_succ_cons, show 5 * (k + 1) = 5 + 5 * k by omega, ← List.drop_drop]
      rw [show (ncells n ++ ncs l).drop 5 = ncs l from by rw [List.drop_append_of_le_length (by simp [ncells])]; simp [ncells]]
      exact ih k
theorem ncs_take (l : List Nd) (k : Nat) : (ncs l).take (5 * k) = ncs (l.take k) := by
  induction l generalizing k with
  | nil => simp [ncs]
  | cons n l ih =>
    cases k with
    | zero => simp [ncs]
    | succ k =>
      rw [ncs_cons, List.take_succ_cons, ncs_cons, show 5 * (k + 1) = (ncells n).length + 5 * k by rw [ncells_len]; omega, List.take_length_add_append, ih k]
theorem ncs_get (l : List Nd) (k : Nat) (h : k < l.length) : ((ncs l).drop (5 * k)).take 5 = ncells l[k] := by
  rw [ncs_drop, List.drop_eq_getElem_cons h, ncs_cons, List.take_append_of_le_length (by simp [ncells])]
  simp [ncells]

/-- How many parts a kind has. -/
def par (op : Int) : Nat := if op = 10 then 1 else if op = 11 ∨ op = 12 then 2 else 0
theorem par_le (op : Int) : par op ≤ 2 := by unfold par; split; · omega
                                             · split <;> omega
/-- May a node be? -/
def nok (n : Nd) : Bool :=
  if n.1 = 1 ∨ n.1 = 2 ∨ n.1 = 10 ∨ n.1 = 11 ∨ n.1 = 12 then decide (n.2.1 = 0 ∧ n.2.2 = zv)
  else if n.1 = 3 ∨ n.1 = 4 then decide (0 ≤ n.2.1 ∧ n.2.1 < 16 ∧ n.2.2 = zv)
  else if n.1 = 5 then decide (0 ≤ n.2.1 ∧ n.2.1 < 8 ∧ n.2.2 = zv)
  else if n.1 = 6 ∨ n.1 = 7 ∨ n.1 = 8 then decide (0 ≤ n.2.1 ∧ n.2.1 < 8 ∧ vchk n.2.2 = true ∧ n.2.2 ≠ zv)
  else if n.1 = 9 then decide (0 ≤ n.2.1 ∧ n.2.1 < 8 ∧ vchk n.2.2 = true ∧ n.2.2.1 = 2)
  else false
theorem vchk_zv : vchk zv = true := by unfold zv; rw [vchk_0]; simp [empty]
theorem vchk_isz {v : V3} (h : vchk v = true) : v.1 = 0 ↔ v = zv := by
  obtain ⟨k, n, s⟩ := v
  constructor
  · intro hk
    have hk : k = 0 := hk
    subst hk
    rw [vchk_0] at h
    simp only [decide_eq_true_eq, nil_str_iff] at h
    rw [h.1, h.2]
    rfl
  · intro e
    rw [e]
    rfl

/-- Of so many trees that stand one behind the other: how many nodes they take. -/
def endOf : List Nd → Nat → Option Nat
  | _, 0 => some 0
  | [], _ + 1 => none
  | x :: l, k + 1 => (endOf l (k + par x.1)).map (· + 1)
theorem endOf_zero (l : List Nd) : endOf l 0 = some 0 := by cases l <;> rfl
theorem endOf_cons (x : Nd) (l : List Nd) (k : Nat) : endOf (x :: l) (k + 1) = (endOf l (k + par x.1)).map (· + 1) := rfl
theorem endOf_le : ∀ {l : List Nd} {k m : Nat}, endOf l k = some m → m ≤ l.length
  | l, 0, m, h => by rw [endOf_zero] at h; cases h; omega
  | [], k + 1, m, h => by cases h
  | x :: l, k + 1, m, h => by
    rw [endOf_cons, Option.map_eq_some_iff] at h
    obtain ⟨m', h', rfl⟩ := h
    have := endOf_le h'
    simp; omega
/-- Where the tree at a place ends. -/
def endAt (l : List Nd) (at_ : Int) : Int := if at_ < 0 then -1 else match endOf (l.drop at_.toNat) 1 with
  | some m => at_ + m
  | none => -1
theorem endAt_nat (l : List Nd) (j : Nat) : endAt l (j : Int) = match endOf (l.drop j) 1 with
    | some m => (j : Int) + m
    | none => -1 := by
  unfold endAt
  rw [if_neg (by omega)]
  simp
theorem endAt_neg (l : List Nd) (j : Int) (h : j < 0) : endAt l j = -1 := by unfold endAt; rw [if_pos h]
theorem endAt_le (l : List Nd) (j : Int) (h : j ≤ l.length) : endAt l j ≤ l.length := by
  unfold endAt
  split
  · omega
  · cases he : endOf (l.drop j.toNat) 1 with
    | none => simp
    | some m =>
      have := endOf_le he
      rw [List.length_drop] at this
      simp only
      omega
theorem endAt_ge (l : List Nd) (j : Int) : -1 ≤ endAt l j := by
  unfold endAt
  split
  · omega
  · split <;> omega

/-- A list that is so many trees, one behind the other. -/
def Wood (l : List Nd) (k : Nat) : Prop := endOf l k = some l.length
instance (l : List Nd) (k : Nat) : Decidable (Wood l k) := inferInstanceAs (Decidable (_ = _))
theorem wood_nil : Wood [] 0 := rfl
theorem wood_cons {x : Nd} {l : List Nd} {k : Nat} (h : Wood (x :: l) k) : ∃ j, k = j + 1 ∧ Wood l (j + par x.1) := by
  cases k with
  | zero => unfold Wood at h; rw [endOf_zero] at h; simp at h
  | succ j =>
    refine ⟨j, rfl, ?_⟩
    unfold Wood at h ⊢
    rw [endOf_cons, Option.map_eq_some_iff] at h
    obtain ⟨m, h1, h2⟩ := h
    simp at h2
    rw [h1, h2]
theorem wood_mk {x : Nd} {l : List Nd} {k : Nat} (h : Wood l (k + par x.1)) : Wood (x :: l) (k + 1) := by
  unfold Wood at h ⊢
  rw [endOf_cons, h]
  rfl
theorem wood_drop {l : List Nd} {k : Nat} (h : Wood l k) (j : Nat) (hj : j ≤ l.length) : ∃ k', Wood (l.drop j) k' := by
  induction j generalizing l k with
  | zero => exact ⟨k, h⟩
  | succ j ih =>
    cases l with
    | nil => simp at hj
    | cons x l =>
      obtain ⟨i, _, h'⟩ := wood_cons h
      exact ih h' (by simpa using hj)
theorem wood_uniq {l : List Nd} {k k' : Nat} (h : Wood l k) (h' : Wood l k') : k = k' := by
  induction l generalizing k k' with
  | nil =>
    cases k with
    | zero => cases k' with
      | zero => rfl
      | succ _ => cases h'
    | succ _ => cases h
  | cons x l ih =>
    obtain ⟨j, rfl, h1⟩ := wood_cons h
    obtain ⟨j', rfl, h1'⟩ := wood_cons h'
    have := ih h1 h1'
    omega
theorem wood_app {a b : List Nd} {j k : Nat} (ha : Wood a j) (hb : Wood b k) : Wood (a ++ b) (j + k) := by
  induction a generalizing j with
  | nil =>
    have : j = 0 := wood_uniq ha wood_nil
    subst this
    simpa using hb
  | cons x a ih =>
    obtain ⟨i, rfl, h1⟩ := wood_cons ha
    have := ih h1
    rw [List.cons_append, show i + 1 + k = (i + k) + 1 by omega]
    refine wood_mk ?_
    rw [show i + k + par x.1 = i + par x.1 + k by omega]
    exact this
/-- Of trees the first ones end somewhere, and are trees; the others too. -/
theorem endOf_split {l : List Nd} : ∀ (j k m : Nat), endOf l (j + k) = some m → ∃ m1, endOf l j = some m1 ∧ Wood (l.take m1) j ∧ m1 ≤ m ∧ endOf (l.drop m1) k = some (m - m1) := by
  induction l with
  | nil =>
    intro j k m h
    cases j with
    | zero => exact ⟨0, rfl, rfl, by omega, by simpa using h⟩
    | succ j => rw [show j + 1 + k = (j + k) + 1 by omega] at h; cases h
  | cons x l ih =>
    intro j k m h
    cases j with
    | zero => exact ⟨0, rfl, by simpa using wood_nil, by omega, by simpa using h⟩
    | succ j =>
      rw [show j + 1 + k = (j + k) + 1 by omega, endOf_cons, Option.map_eq_some_iff] at h
      obtain ⟨m', h1, rfl⟩ := h
      rw [show j + k + par x.1 = (j + par x.1) + k by omega] at h1
      obtain ⟨m1, e1, e2, e3, e4⟩ := ih _ _ _ h1
      refine ⟨m1 + 1, by rw [endOf_cons, e1]; rfl, ?_, by omega, ?_⟩
      · rw [List.take_succ_cons]; exact wood_mk e2
      · rw [List.drop_succ_cons, e4]; congr 1; omega
theorem wood_split {l : List Nd} {j k : Nat} (h : Wood l (j + k)) : ∃ m1, endOf l j = some m1 ∧ m1 ≤ l.length ∧ Wood (l.take m1) j ∧ Wood (l.drop m1) k := by
  obtain ⟨m1, e1, e2, e3, e4⟩ := endOf_split j k _ h
  refine ⟨m1, e1, e3, e2, ?_⟩
  unfold Wood
  rw [e4, List.length_drop]
theorem endOf_app {a b : List Nd} {j : Nat} (h : Wood a j) : endOf (a ++ b) j = some a.length := by
  induction a generalizing j with
  | nil =>
    have : j = 0 := wood_uniq h wood_nil
    subst this
    exact endOf_zero _
  | cons x a ih =>
    obtain ⟨i, rfl, h1⟩ := wood_cons h
    rw [List.cons_append, endOf_cons, ih h1]
    simp

/-- How deep the trees are that stand one behind the other. -/
def stk : List Nd → List Nat
  | [] => []
  | x :: l => (((stk l).take (par x.1)).foldl max 0 + 1) :: (stk l).drop (par x.1)
theorem stk_cons (x : Nd) (l : List Nd) : stk (x :: l) = (((stk l).take (par x.1)).foldl max 0 + 1) :: (stk l).drop (par x.1) := rfl
theorem stk_len {l : List Nd} {k : Nat} (h : Wood l k) : (stk l).length = k := by
  induction l generalizing k with
  | nil => rw [wood_uniq h wood_nil]; rfl
  | cons x l ih =>
    obtain ⟨j, rfl, h1⟩ := wood_cons h
    have := ih h1
    simp [stk, this]
theorem stk_app {a b : List Nd} {k : Nat} (h : Wood a k) : stk (a ++ b) = stk a ++ stk b := by
  induction a generalizing k with
  | nil => rfl
  | cons x a ih =>
    obtain ⟨j, rfl, h1⟩ := wood_cons h
    have hl := stk_len h1
    rw [List.cons_append, stk_cons, stk_cons, ih h1]
    rw [List.take_append_of_le_length (by omega), List.drop_append_of_le_length (by omega)]
    rfl
theorem stk_lt (l : List Nd) : ∀ d ∈ stk l, 1 ≤ d ∧ d ≤ l.length := by
  induction l with
  | nil => simp [stk]
  | cons x l ih =>
    intro d hd
    rw [stk_cons, List.mem_cons] at hd
    rcases hd with rfl | hd
    · have hmax : ∀ (q : List Nat) (a : Nat), (∀ y ∈ q, y ≤ l.length) → a ≤ l.length → q.foldl max a ≤ l.length := by
        intro q
        induction q with
        | nil => intro a _ h; exact h
        | cons y q ihq =>
          intro a hq ha
          refine ihq _ (fun z hz => hq z (List.mem_cons_of_mem _ hz)) ?_
          have := hq y (by simp)
          omega
      have := hmax ((stk l).take (par x.1)) 0 (fun y hy => (ih y (List.mem_of_mem_take hy)).2) (by omega)
      simp only [List.length_cons]
      omega
    · have := ih d (List.mem_of_mem_drop hd)
      simp only [List.length_cons]
      omega
/-- How deep a filter is. -/
def dep (l : List Nd) : Nat := if Wood l 1 then (stk l).headD 0 else 0
theorem dep_not {l : List Nd} (h : ¬ Wood l 1) : dep l = 0 := by unfold dep; rw [if_neg h]
theorem dep_wood {l : List Nd} (h : Wood l 1) : stk l = [dep l] := by
  unfold dep
  rw [if_pos h]
  have hl := stk_len h
  match hs : stk l, hl with
  | [d], _ => rfl
theorem dep_le (l : List Nd) : dep l ≤ l.length := by
  unfold dep
  split
  · cases hs : stk l with
    | nil => simp
    | cons d q => exact (stk_lt l d (by rw [hs]; simp)).2
  · omega
theorem wood_end (l : List Nd) : endAt l 0 = (l.length : Int) ↔ Wood l 1 := by
  have := endAt_nat l 0
  simp only [Int.ofNat_zero, List.drop_zero, Int.zero_add, Int.natCast_zero] at this
  rw [show endAt l 0 = _ from this]
  unfold Wood
  cases endOf l 1 with
  | none => simp
  | some m => simp; omega
/-- What is wrong with a filter. -/
def lchk (l : List Nd) : Int :=
  if 31 < l.length then 4 else if l.all nok = false then 1 else if ¬ Wood l 1 then 1 else if 8 < dep l then 5 else 0
theorem lchk_ok {l : List Nd} (h : lchk l = 0) : l.length ≤ 31 ∧ (∀ n ∈ l, nok n = true) ∧ Wood l 1 ∧ dep l ≤ 8 := by
  unfold lchk at h
  by_cases h1 : 31 < l.length
  · rw [if_pos h1] at h; cases h
  · rw [if_neg h1] at h
    by_cases h2 : l.all nok = false
    · rw [if_pos h2] at h; cases h
    · rw [if_neg h2] at h
      by_cases h3 : ¬ Wood l 1
      · rw [if_pos h3] at h; cases h
      · rw [if_neg h3] at h
        by_cases h4 : 8 < dep l
        · rw [if_pos h4] at h; cases h
        · exact ⟨by omega, by simpa using h2, by simpa using h3, by omega⟩
theorem lchk_mk {l : List Nd} (h1 : l.length ≤ 31) (h2 : ∀ n ∈ l, nok n = true) (h3 : Wood l 1) (h4 : dep l ≤ 8) : lchk l = 0 := by
  unfold lchk
  rw [if_neg (by omega), if_neg (by simpa using h2), if_neg (by simpa using h3), if_neg (by omega)]
end Go.Proofs.Ytadmaalhhigbeaa
