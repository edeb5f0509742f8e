/- Values in order; texts folded and in quotes: the mathematics. -/
import Derived.WalkKit
import Derived.WalkLawsBesides
import Derived.Lib.IndexMore
namespace Go.Proofs.Ytadmaalhhigbeaa
open Go
namespace ValM

theorem bl_irrefl : ∀ l : List UInt8, Op.bytesLess l l = false
  | [] => rfl
  | x :: l => by
    unfold Op.bytesLess
    rw [bl_irrefl l]
    simp
theorem bl_tri : ∀ x y : List UInt8, Op.bytesLess x y = true ∨ x = y ∨ Op.bytesLess y x = true
  | [], [] => .inr (.inl rfl)
  | [], _ :: _ => .inl rfl
  | _ :: _, [] => .inr (.inr rfl)
  | a :: x, b :: y => by
    by_cases h1 : a < b
    · exact .inl (by unfold Op.bytesLess; simp [h1])
    · by_cases h2 : b < a
      · exact .inr (.inr (by unfold Op.bytesLess; simp [h2]))
      · have e : a = b := by
          apply UInt8.toNat_inj.1
          rw [UInt8.lt_iff_toNat_lt] at h1 h2
          omega
        subst e
        rcases bl_tri x y with h | h | h
        · exact .inl (by unfold Op.bytesLess; simp [h])
        · exact .inr (.inl (by rw [h]))
        · exact .inr (.inr (by unfold Op.bytesLess; simp [h]))
theorem bl_trans : ∀ {x y z : List UInt8}, Op.bytesLess x y = true → Op.bytesLess y z = true → Op.bytesLess x z = true
  | _, [], z, h, _ => by cases ‹List UInt8› <;> simp [Op.bytesLess] at h
  | [], b :: y, [], _, h => by simp [Op.bytesLess] at h
  | [], b :: y, c :: z, _, _ => rfl
  | a :: x, b :: y, [], _, h => by simp [Op.bytesLess] at h
  | a :: x, b :: y, c :: z, h, k => by
    unfold Op.bytesLess at h k ⊢
    simp only [Bool.or_eq_true, decide_eq_true_eq, Bool.and_eq_true, beq_iff_eq] at h k ⊢
    rcases h with h | ⟨rfl, h⟩
    · rcases k with k | ⟨rfl, k⟩
      · left; rw [UInt8.lt_iff_toNat_lt] at *; omega
      · exact .inl h
    · rcases k with k | ⟨rfl, k⟩
      · exact .inl k
      · exact .inr ⟨rfl, bl_trans h k⟩
theorem bl_asymm {x y : List UInt8} (h : Op.bytesLess x y = true) : Op.bytesLess y x = false := by
  cases k : Op.bytesLess y x
  · rfl
  · have := bl_trans h k
    rw [bl_irrefl] at this
    cases this

def cmpI (a b : Int) : Int := if a < b then -1 else if b < a then 1 else 0
def cmpS (x y : List UInt8) : Int := if Op.bytesLess x y = true then -1 else if Op.bytesLess y x = true then 1 else 0
theorem cmpI_neg (a b : Int) : cmpI a b = -cmpI b a := by unfold cmpI; split <;> split <;> (try split) <;> omega
theorem cmpI_zero (a b : Int) : cmpI a b = 0 ↔ a = b := by unfold cmpI; split <;> (try split) <;> constructor <;> intro h <;> omega
theorem cmpI_vals (a b : Int) : cmpI a b = -1 ∨ cmpI a b = 0 ∨ cmpI a b = 1 := by unfold cmpI; split <;> (try split) <;> simp
theorem cmpS_neg (x y : List UInt8) : cmpS x y = -cmpS y x := by
  unfold cmpS
  rcases bl_tri x y with h | h | h
  · rw [if_pos h, if_neg (by rw [bl_asymm h]; simp), if_pos h]
  · subst h; rw [bl_irrefl]; simp
  · rw [if_neg (by rw [bl_asymm h]; simp), if_pos h, if_pos h]; rfl
theorem cmpS_zero (x y : List UInt8) : cmpS x y = 0 ↔ x = y := by
  unfold cmpS
  rcases bl_tri x y with h | h | h
  · rw [if_pos h]
    constructor
    · intro e; omega
    · intro e; subst e; rw [bl_irrefl] at h; cases h
  · subst h; rw [bl_irrefl]; simp
  · rw [if_neg (by rw [bl_asymm h]; simp), if_pos h]
    constructor
    · intro e; omega
    · intro e; subst e; rw [bl_irrefl] at h; cases h
theorem cmpS_vals (x y : List UInt8) : cmpS x y = -1 ∨ cmpS x y = 0 ∨ cmpS x y = 1 := by unfold cmpS; split <;> (try split) <;> simp
theorem cmpS_lt (x y : List UInt8) : cmpS x y < 0 ↔ Op.bytesLess x y = true := by
  unfold cmpS
  by_cases h : Op.bytesLess x y = true
  · rw [if_pos h]; simp [h]
  · rw [if_neg h]
    constructor
    · intro e; split at e <;> omega
    · intro e; exact absurd e h

abbrev V := Int × Int × ByteArray
/-- Which value stands ahead. -/
def vcmp (a b : V) : Int := if cmpI a.1 b.1 ≠ 0 then cmpI a.1 b.1 else if cmpI a.2.1 b.2.1 ≠ 0 then cmpI a.2.1 b.2.1 else cmpS a.2.2.data.toList b.2.2.data.toList
theorem vcmp_neg (a b : V) : vcmp a b = -vcmp b a := by
  unfold vcmp
  have h1 := cmpI_neg a.1 b.1
  have h2 := cmpI_neg a.2.1 b.2.1
  have h3 := cmpS_neg a.2.2.data.toList b.2.2.data.toList
  by_cases e1 : cmpI b.1 a.1 = 0
  · rw [if_neg (by omega), if_neg (show ¬ cmpI b.1 a.1 ≠ 0 by omega)]
    by_cases e2 : cmpI b.2.1 a.2.1 = 0
    · rw [if_neg (by omega), if_neg (show ¬ cmpI b.2.1 a.2.1 ≠ 0 by omega)]; exact h3
    · rw [if_pos (by omega), if_pos e2]; exact h2
  · rw [if_pos (by omega), if_pos e1]; exact h1
theorem bytes_ext {s t : ByteArray} (h : s.data.toList = t.data.toList) : s = t := by
  apply ByteArray.ext
  apply Array.ext'
  exact h
theorem vcmp_zero (a b : V) : vcmp a b = 0 ↔ a = b := by
  obtain ⟨a1, a2, a3⟩ := a
  obtain ⟨b1, b2, b3⟩ := b
  unfold vcmp
  constructor
  · intro h
    by_cases e1 : cmpI a1 b1 = 0
    · by_cases e2 : cmpI a2 b2 = 0
      · rw [if_neg (by simpa using e1), if_neg (by simpa using e2)] at h
        have := bytes_ext ((cmpS_zero _ _).1 h)
        rw [(cmpI_zero a1 b1).1 e1, (cmpI_zero a2 b2).1 e2]
        simp only at this
        rw [this]
      · rw [if_neg (by simpa using e1), if_pos (by simpa using e2)] at h
        exact absurd h (by simpa using e2)
    · rw [if_pos (by simpa using e1)] at h
      exact absurd h (by simpa using e1)
  · intro h
    injection h with h1 h
    injection h with h2 h3
    subst h1 h2 h3
    rw [if_neg (by simp [(cmpI_zero a1 a1).2 rfl]), if_neg (by simp [(cmpI_zero a2 a2).2 rfl])]
    exact (cmpS_zero _ _).2 rfl
/-- Less, of one kind. -/
def vless (a b : V) : Bool := if a.1 = b.1 ∧ (a.1 = 1 ∨ a.1 = 2) then decide (vcmp a b < 0) else false
theorem vcmp_same {a b : V} (h : a.1 = b.1) : vcmp a b < 0 ↔ a.2.1 < b.2.1 ∨ (a.2.1 = b.2.1 ∧ Op.bytesLess a.2.2.data.toList b.2.2.data.toList = true) := by
  unfold vcmp
  rw [if_neg (by simp [(cmpI_zero a.1 b.1).2 h])]
  by_cases e : a.2.1 = b.2.1
  · rw [if_neg (by simp [(cmpI_zero a.2.1 b.2.1).2 e]), cmpS_lt]
    constructor
    · intro k; exact .inr ⟨e, k⟩
    · rintro (k | ⟨_, k⟩)
      · omega
      · exact k
  · rw [if_pos (by intro k; exact e ((cmpI_zero _ _).1 k))]
    unfold cmpI
    constructor
    · intro k
      by_cases h1 : a.2.1 < b.2.1
      · exact .inl h1
      · rw [if_neg h1] at k
        split at k <;> omega
    · rintro (k | ⟨k, _⟩)
      · rw [if_pos k]; omega
      · exact absurd k e
theorem vless_trans {a b c : V} (h : vless a b = true) (k : vless b c = true) : vless a c = true := by
  unfold vless at *
  by_cases h1 : a.1 = b.1 ∧ (a.1 = 1 ∨ a.1 = 2)
  · rw [if_pos h1] at h
    by_cases k1 : b.1 = c.1 ∧ (b.1 = 1 ∨ b.1 = 2)
    · rw [if_pos k1] at k
      rw [if_pos ⟨h1.1.trans k1.1, h1.2⟩]
      simp only [decide_eq_true_eq] at *
      rw [vcmp_same h1.1] at h
      rw [vcmp_same k1.1] at k
      rw [vcmp_same (h1.1.trans k1.1)]
      rcases h with h | ⟨h, h'⟩
      · rcases k with k | ⟨k, k'⟩
        · left; omega
        · left; omega
      · rcases k with k | ⟨k, k'⟩
        · left; omega
        · exact .inr ⟨h.trans k, bl_trans h' k'⟩
    · rw [if_neg k1] at k; cases k
  · rw [if_neg h1] at h; cases h
theorem vless_irrefl (a : V) : vless a a = false := by
  unfold vless
  split
  · rw [(vcmp_zero a a).2 rfl]; rfl
  · rfl
theorem vless_asymm {a b : V} (h : vless a b = true) : vless b a = false := by
  cases k : vless b a
  · rfl
  · have := vless_trans h k
    rw [vless_irrefl] at this
    cases this

/-- A byte, a text, with small letters. -/
def lowB (c : UInt8) : UInt8 := if 65 ≤ c.toNat ∧ c.toNat ≤ 90 then c + 32 else c
def fold (l : List UInt8) : List UInt8 := l.map lowB
def vholds (a b : V) : Bool := decide (a.1 = 2) && decide (b.1 = 2) && Lib.contains (fold a.2.2.data.toList) (fold b.2.2.data.toList)
theorem lowB_up {c : UInt8} (h1 : 65 ≤ c.toNat) (h2 : c.toNat ≤ 90) : (lowB c).toNat = c.toNat + 32 := by
  unfold lowB
  rw [if_pos ⟨h1, h2⟩, UInt8.toNat_add]
  have : (32 : UInt8).toNat = 32 := rfl
  rw [this]
  omega
theorem lowB_same {c : UInt8} (h : ¬ (65 ≤ c.toNat ∧ c.toNat ≤ 90)) : lowB c = c := by unfold lowB; rw [if_neg h]

/-- A text of plain bytes in quotes. -/
def esc (c : UInt8) : List UInt8 := if c = 34 ∨ c = 92 then [92, c] else [c]
def qpl (l : List UInt8) : List UInt8 := l.flatMap esc
theorem qpl_snoc (l : List UInt8) (c : UInt8) : qpl (l ++ [c]) = qpl l ++ esc c := by simp [qpl]
theorem qpl_len (l : List UInt8) : (qpl l).length ≤ 2 * l.length := by
  induction l with
  | nil => simp [qpl]
  | cons x l ih =>
    have : (esc x).length ≤ 2 := by unfold esc; split <;> simp
    simp only [qpl, List.flatMap_cons, List.length_append, List.length_cons] at ih ⊢
    omega
end ValM
end Go.Proofs.Ytadmaalhhigbeaa
