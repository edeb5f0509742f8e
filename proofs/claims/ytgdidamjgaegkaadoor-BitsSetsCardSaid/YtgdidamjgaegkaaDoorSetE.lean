/- What a set's text is read as, part by part: the mathematics. -/
import Derived.Test.YtgdidamjgaegkaaDoorSetB
import Derived.Test.YtgdidamjgaegkaaDoorSetD
namespace Go.Proofs.YtgdidamjgaegkaaDoor
set_option linter.unusedVariables false
open Go Go.RowKit BitM MskM

theorem lst_congr {x y : BitVec 32} : ∀ {k : Nat}, (∀ i : Nat, i < k → has x (i : Int) = has y (i : Int)) → lst x k = lst y k
  | 0, _ => rfl
  | k + 1, h => by
    rw [lst_succ, lst_succ, lst_congr (fun i hi => h i (by omega)), h k (by omega)]
theorem lst_stop {x : BitVec 32} {j : Nat} (h : ∀ i : Nat, j ≤ i → has x (i : Int) = false) : ∀ k, j ≤ k → lst x k = lst x j
  | 0, hk => by rw [show j = 0 by omega]
  | k + 1, hk => by
    by_cases e : j = k + 1
    · rw [e]
    · rw [lst_succ, h k (by omega), lst_stop h k (by omega)]; simp
theorem lst_put {x : BitVec 32} {n : Nat} (hn : n < 32) (h : ∀ i : Nat, n ≤ i → has x (i : Int) = false) : lst (put x (n : Int)) 32 = lst x 32 ++ [(n : Int)] := by
  have h1 : lst (put x (n : Int)) 32 = lst (put x (n : Int)) (n + 1) := lst_stop (fun i hi => by
    rw [has_put, h i (by omega), decide_eq_false (by omega)]; rfl) 32 (by omega)
  have h2 : lst (put x (n : Int)) n = lst x n := lst_congr (fun i hi => by
    rw [has_put, decide_eq_false (show ¬ ((n : Int) = (i : Int)) by omega)]; simp)
  rw [h1, lst_succ, h2, lst_stop h 32 (by omega)]
  have : has (put x (n : Int)) (n : Int) = true := by
    rw [has_put, decide_eq_true rfl, decide_eq_true (show 0 ≤ (n : Int) ∧ (n : Int) < 32 by omega)]; simp
  rw [if_pos this]
theorem shr_zero (x : BitVec 32) (n : Nat) : x >>> n = 0#32 ↔ ∀ i : Nat, n ≤ i → has x (i : Int) = false := by
  constructor
  · intro h i hi
    by_cases h32 : i < 32
    · rw [has_in x h32]
      have := congrArg (fun y : BitVec 32 => y.getLsbD (i - n)) h
      simp only [BitVec.getLsbD_ushiftRight, BitVec.getLsbD_zero] at this
      rw [show n + (i - n) = i by omega] at this
      exact this
    · exact has_out x (by omega)
  · intro h
    apply BitVec.eq_of_getLsbD_eq
    intro i hi
    rw [BitVec.getLsbD_ushiftRight, BitVec.getLsbD_zero]
    by_cases h32 : n + i < 32
    · rw [← has_in x h32]; exact h (n + i) (by omega)
    · exact BitVec.getLsbD_of_ge x _ (by omega)
/-- One more part. -/
def stp (z : Option (BitVec 32)) (p : List UInt8) : Option (BitVec 32) := z.bind fun s => if (pint p 31).2 = true ∧ s >>> (pint p 31).1.toNat = 0#32 then some (put s (pint p 31).1) else none
/-- What is read of parts: they are the texts of the set's numbers. -/
theorem stp_some : ∀ (k : Nat) (ps : List (List UInt8)) (s : BitVec 32), ps.length = k → ps.foldl stp (some 0#32) = some s → ps = (lst s 32).map Lib.itoa
  | 0, ps, s, h, e => by
    rw [List.length_eq_zero_iff.1 h] at e ⊢
    injection e with e
    subst e
    have : lst 0#32 32 = [] := by rw [lst_stop (j := 0) (fun i _ => has_zero _) 32 (by omega)]; rfl
    rw [this]; rfl
  | k + 1, ps, s, h, e => by
    have hne : ps ≠ [] := by rintro rfl; simp at h
    rw [← List.dropLast_concat_getLast hne] at e ⊢
    rw [List.foldl_append] at e
    cases hq : ps.dropLast.foldl stp (some 0#32) with
    | none => rw [hq] at e; simp [stp] at e
    | some s0 =>
      rw [hq] at e
      have ih := stp_some k ps.dropLast s0 (by rw [List.length_dropLast]; omega) hq
      generalize ps.getLast hne = p at *
      simp only [List.foldl_cons, List.foldl_nil, stp, Option.bind_some] at e
      split at e
      · rename_i hc
        injection e with e
        obtain ⟨j, hj, hv⟩ := pint_range p hc.1
        have hi := itoa_pint p 31 hc.1
        rw [hv] at hi e
        have hz := hc.2
        rw [hv, Int.toNat_natCast] at hz
        rw [← e, lst_put hj ((shr_zero s0 j).1 hz), List.map_append, ← ih, List.map_cons, List.map_nil, hi]
      · cases e
/-- The texts of a set's numbers are read as it. -/
theorem stp_lst (s : BitVec 32) : ∀ k, k ≤ 32 → ((lst s k).map Lib.itoa).foldl stp (some 0#32) = some (ofl (lst s k))
  | 0, _ => rfl
  | k + 1, hk => by
    have ih := stp_lst s k (by omega)
    rw [lst_succ]
    cases hb : has s (k : Int) with
    | false => simpa using ih
    | true =>
      rw [if_pos rfl, List.map_append, List.foldl_append, ih, ofl_snoc]
      have hp : pint (Lib.itoa (k : Int)) 31 = ((k : Int), true) := by
        rw [pint_most (k : Int) 31 (by omega) (by omega), if_pos (by omega)]
      simp only [List.map_cons, List.map_nil, List.foldl_cons, List.foldl_nil, stp, Option.bind_some, hp, Int.toNat_natCast]
      rw [if_pos ⟨trivial, (shr_zero _ k).2 (fun i hi => by
        rw [has_ofl, decide_eq_false (show ¬ ((i : Int) ∈ lst s k) by
          intro hm
          have := (mem_lst s k (i : Int)).1 hm
          omega)]
        simp)⟩]
end Go.Proofs.YtgdidamjgaegkaaDoor
