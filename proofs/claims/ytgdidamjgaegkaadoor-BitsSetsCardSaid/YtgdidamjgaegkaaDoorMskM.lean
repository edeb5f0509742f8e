/- Texts of masks: parts of a text, what each asks for, and that texts are read back: the mathematics. -/
import Derived.Lib.Join
import Derived.Lib.ItoaNum
import Derived.Lib.SplitLaws
namespace Go.Proofs.YtgdidamjgaegkaaDoor
open Go
namespace MskM

/-- The parts of a text between separators. -/
def parts (c : UInt8) : List UInt8 → List (List UInt8)
  | [] => [[]]
  | x :: l => if x = c then [] :: parts c l else match parts c l with
    | p :: ps => (x :: p) :: ps
    | [] => [[x]]
theorem parts_ne (c : UInt8) : ∀ l, parts c l ≠ []
  | [] => by simp [parts]
  | x :: l => by
    unfold parts
    split
    · simp
    · split <;> simp
theorem parts_cons (c : UInt8) (l : List UInt8) : ∃ p ps, parts c l = p :: ps := by
  rcases h : parts c l with _ | ⟨p, ps⟩
  · exact absurd h (parts_ne c l)
  · exact ⟨p, ps, rfl⟩
theorem join_parts (c : UInt8) : ∀ l, Lib.join (parts c l) [c] = l
  | [] => rfl
  | x :: l => by
    have ih := join_parts c l
    obtain ⟨p, ps, hp⟩ := parts_cons c l
    rw [hp, Lib.join_cons] at ih
    unfold parts
    by_cases h : x = c
    · rw [if_pos h, hp, Lib.join_cons]
      subst h
      simp only [Lib.joinTail, List.map_cons, List.flatten_cons, List.nil_append, List.cons_append] at ih ⊢
      rw [← ih]
    · rw [if_neg h, hp]
      show Lib.join ((x :: p) :: ps) [c] = _
      rw [Lib.join_cons, ← ih]
      rfl
theorem parts_skip (c : UInt8) : ∀ (p l : List UInt8), c ∉ p → ∃ q qs, parts c l = q :: qs ∧ parts c (p ++ l) = (p ++ q) :: qs
  | [], l, _ => by
    obtain ⟨q, qs, h⟩ := parts_cons c l
    exact ⟨q, qs, h, h⟩
  | x :: p, l, h => by
    simp only [List.mem_cons, not_or] at h
    obtain ⟨q, qs, h1, h2⟩ := parts_skip c p l h.2
    refine ⟨q, qs, h1, ?_⟩
    show parts c (x :: (p ++ l)) = _
    unfold parts
    rw [if_neg (fun e => h.1 e.symm), h2]
    rfl

/-- The text of a field, or of the labels. -/
def tok (i : Nat) : List UInt8 := if i = 8 then [108] else [UInt8.ofNat (48 + i)]
def toks (m : Nat) : List (List UInt8) := ((List.range 9).filter fun i => m.testBit i).map tok
def mtx (m : Nat) : List UInt8 := if 511 < m then [] else if m = 0 then [45] else Lib.join (toks m) [44]
/-- The bit that a part asks for. -/
def askP : List UInt8 → Option Nat
  | [c] => if c = 108 then some 256 else if 48 ≤ c.toNat ∧ c.toNat < 56 then some (2 ^ (c.toNat - 48)) else none
  | _ => none
def gath : List (List UInt8) → Nat → Option Nat
  | [], m => some m
  | p :: ps, m => match askP p with
    | none => none
    | some b => if b ≤ m then none else gath ps (m ||| b)
def mrd (t : List UInt8) : Option Nat := if t = [45] then some 0 else gath (parts 44 t) 0

theorem askP_tok {p : List UInt8} {b : Nat} (h : askP p = some b) : ∃ k, k < 9 ∧ b = 2 ^ k ∧ p = tok k := by
  match p with
  | [] => simp [askP] at h
  | [c] =>
    simp only [askP] at h
    by_cases hc : c = 108
    · rw [if_pos hc] at h
      injection h with h
      exact ⟨8, by omega, h.symm, by subst hc; rfl⟩
    · rw [if_neg hc] at h
      by_cases hd : 48 ≤ c.toNat ∧ c.toNat < 56
      · rw [if_pos hd] at h
        injection h with h
        refine ⟨c.toNat - 48, by omega, h.symm, ?_⟩
        unfold tok
        rw [if_neg (by omega), show 48 + (c.toNat - 48) = c.toNat by omega]
        simp
      · rw [if_neg hd] at h; cases h
  | _ :: _ :: _ => simp [askP] at h
theorem toks_or : ∀ m, m < 512 → ∀ k, k < 9 → m < 2 ^ k → toks (m ||| 2 ^ k) = toks m ++ [tok k] ∧ m ||| 2 ^ k < 512 := by decide +kernel
theorem gath_toks : ∀ (ps : List (List UInt8)) (m0 m : Nat), m0 < 512 → gath ps m0 = some m → toks m = toks m0 ++ ps ∧ m < 512
  | [], m0, m, h0, h => by
    simp only [gath] at h
    injection h with h
    subst h
    exact ⟨by simp, h0⟩
  | p :: ps, m0, m, h0, h => by
    simp only [gath] at h
    cases ha : askP p with
    | none => rw [ha] at h; cases h
    | some b =>
      rw [ha] at h
      obtain ⟨k, hk, rfl, rfl⟩ := askP_tok ha
      simp only at h
      by_cases hb : 2 ^ k ≤ m0
      · rw [if_pos hb] at h; cases h
      · rw [if_neg hb] at h
        obtain ⟨h1, h2⟩ := toks_or m0 h0 k hk (by omega)
        obtain ⟨h3, h4⟩ := gath_toks ps _ m h2 h
        rw [h3, h1]
        exact ⟨by simp, h4⟩
theorem mrd_some {t : List UInt8} {m : Nat} (h : mrd t = some m) : m < 512 ∧ mtx m = t := by
  unfold mrd at h
  by_cases ht : t = [45]
  · rw [if_pos ht] at h
    injection h with h
    subst h
    exact ⟨by omega, ht.symm⟩
  · rw [if_neg ht] at h
    obtain ⟨h1, h2⟩ := gath_toks _ _ _ (by omega) h
    have h3 : toks 0 = [] := rfl
    rw [h3, List.nil_append] at h1
    have h4 : m ≠ 0 := by
      rintro rfl
      rw [h3] at h1
      exact parts_ne 44 t h1.symm
    refine ⟨h2, ?_⟩
    unfold mtx
    rw [if_neg (by omega), if_neg h4, h1, join_parts]
theorem mrd_mtx : ∀ m, m < 512 → mrd (mtx m) = some m := by decide +kernel
theorem mrd_none {t : List UInt8} (h : mrd t = none) (m : Nat) (hm : m < 512) : mtx m ≠ t := by
  rintro rfl
  rw [mrd_mtx m hm] at h
  cases h
theorem mtx_inj {m n : Nat} (hm : m < 512) (hn : n < 512) (h : mtx m = mtx n) : m = n := by
  have h1 := mrd_mtx m hm
  rw [h, mrd_mtx n hn] at h1
  injection h1 with h1
  exact h1.symm

theorem itoa_small {i : Nat} (h : i < 10) : Lib.itoa (i : Int) = [UInt8.ofNat (48 + i)] := by
  unfold Lib.itoa
  rw [if_neg (by omega), Int.toNat_natCast, Lib.decDigits_one h]
theorem itoa_tok {i : Nat} (h : i < 8) : Lib.itoa (i : Int) = tok i := by
  rw [itoa_small (by omega)]
  unfold tok
  rw [if_neg (by omega)]
end MskM
end Go.Proofs.YtgdidamjgaegkaaDoor
