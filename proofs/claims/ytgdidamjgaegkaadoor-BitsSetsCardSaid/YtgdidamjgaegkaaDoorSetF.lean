/- A set's text, read part by part, is read as the document reads it: the mathematics. -/
import Derived.Test.YtgdidamjgaegkaaDoorSetE
namespace Go.Proofs.YtgdidamjgaegkaaDoor
set_option linter.unusedVariables false
open Go Go.RowKit BitM MskM

/-- What a text is read as, part by part. -/
def prd (t : List UInt8) : BitVec 32 × Bool := if t = [45] then (0#32, true) else match (parts 44 t).foldl stp (some 0#32) with
  | some s => (s, true)
  | none => (0#32, false)
theorem ofl_lst (s : BitVec 32) : ofl (lst s 32) = s := by
  apply BitM.ext
  intro n
  rw [has_ofl]
  by_cases h : 0 ≤ n ∧ n < 32
  · obtain ⟨k, rfl⟩ := Int.eq_ofNat_of_zero_le h.1
    rw [decide_eq_true h, Bool.true_and, Bool.eq_iff_iff, decide_eq_true_eq]
    have h2 := mem_lst s 32 (k : Int)
    constructor
    · intro hm
      have := h2.1 hm
      simpa using this.2.2
    · intro hb
      exact h2.2 (by simpa using ⟨h.2, hb⟩)
  · rw [decide_eq_false h, has_out s h]; rfl
theorem itoa_no44 (n : Int) (h0 : 0 ≤ n) : (44 : UInt8) ∉ Lib.itoa n := by
  obtain ⟨k, rfl⟩ := Int.eq_ofNat_of_zero_le h0
  have hi : Lib.itoa (k : Int) = Lib.decDigits k := by unfold Lib.itoa; rw [if_neg (by omega), Int.toNat_natCast]
  rw [hi]
  intro hm
  have := List.all_eq_true.1 (dec_facts k k (Nat.le_refl _)).2.1 44 hm
  exact absurd this (by decide)
theorem parts_join : ∀ (ps : List (List UInt8)), ps ≠ [] → (∀ p ∈ ps, (44 : UInt8) ∉ p) → parts 44 (Lib.join ps [44]) = ps
  | [], h, _ => absurd rfl h
  | [p], _, h => by
    have : Lib.join [p] [44] = p := by rw [Lib.join_cons]; simp [Lib.joinTail]
    rw [this, parts_none 44 p (h p (by simp))]
  | p :: q :: r, _, h => by
    have e : Lib.join (p :: q :: r) [44] = p ++ 44 :: Lib.join (q :: r) [44] := by
      rw [Lib.join_cons, Lib.join_cons]; simp [Lib.joinTail]
    rw [e, parts_first 44 p _ (h p (by simp)), parts_join (q :: r) (by simp) (fun x hx => h x (List.mem_cons_of_mem _ hx))]
theorem rdl_lst (s : BitVec 32) : ∀ k, k ≤ 32 → rdl ((lst s k).map Lib.itoa) = ofl (lst s k)
  | 0, _ => rfl
  | k + 1, hk => by
    have ih := rdl_lst s k (by omega)
    rw [lst_succ]
    cases hb : has s (k : Int) with
    | false => simpa using ih
    | true =>
      have hp : pint (Lib.itoa (k : Int)) 31 = ((k : Int), true) := by
        rw [pint_most (k : Int) 31 (by omega) (by omega), if_pos (by omega)]
      rw [if_pos rfl, List.map_append, List.map_cons, List.map_nil, rdl_snoc, ih, ofl_snoc, hp]
      rfl
theorem prd_brd (t : List UInt8) : prd t = brd t := by
  unfold prd
  by_cases h45 : t = [45]
  · subst h45
    rw [if_pos rfl]
    decide +kernel
  · rw [if_neg h45]
    cases hf : (parts 44 t).foldl stp (some 0#32) with
    | some s =>
      have hp := stp_some _ _ s rfl hf
      have hj := join_parts 44 t
      rw [hp] at hj
      have hne : lst s 32 ≠ [] := by
        intro e
        rw [e] at hp
        exact parts_ne 44 t hp
      have hb : bsh s = t := by unfold bsh; rw [if_neg hne]; exact hj
      have hl : (parts 44 t).take 33 = (lst s 32).map Lib.itoa := by
        rw [hp, List.take_of_length_le (by rw [List.length_map]; have := lst_len s 32; omega)]
      unfold brd
      rw [hl, rdl_lst s 32 (by omega), ofl_lst, if_pos hb]
    | none =>
      unfold brd
      rw [if_neg]
      intro hb
      generalize rdl ((parts 44 t).take 33) = x at hb
      unfold bsh at hb
      split at hb
      · exact h45 hb.symm
      · rename_i hne
        have hp : parts 44 t = (lst x 32).map Lib.itoa := by
          rw [← hb]
          refine parts_join _ (by simpa using hne) ?_
          intro p hm
          obtain ⟨n, hn, rfl⟩ := List.mem_map.1 hm
          exact itoa_no44 n (lst_mem x 32 (by omega) n hn).1
        rw [hp, stp_lst x 32 (by omega)] at hf
        cases hf
theorem bsh_inj {x y : BitVec 32} (h : (lst x 32).map Lib.itoa = (lst y 32).map Lib.itoa) : x = y := by
  have h1 := stp_lst x 32 (by omega)
  have h2 := stp_lst y 32 (by omega)
  rw [h, h2, ofl_lst, ofl_lst] at h1
  injection h1 with h1
  exact h1.symm
end Go.Proofs.YtgdidamjgaegkaaDoor
