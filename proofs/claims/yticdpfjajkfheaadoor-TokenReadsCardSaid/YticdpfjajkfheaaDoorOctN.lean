/- What taking a number off a text gives, as the document says it: mathematics alone. -/
import Derived.Test.YticdpfjajkfheaaDoorOctM
namespace Go.Proofs.YticdpfjajkfheaaDoor.OctM
/-- The value of the first n bytes, seven bits each. -/
def val (l : List UInt8) : Nat → Nat
  | 0 => 0
  | n + 1 => val l n + (l.getD n 0).toNat % 128 * 128 ^ n
theorem scan_run (l : List UInt8) : ∀ n, n ≤ 6 → n ≤ l.length → (∀ j, j < n → 128 ≤ (l.getD j 0).toNat) → scan l 0 0 = scan (l.drop n) n (val l n)
  | 0, _, _, _ => rfl
  | n + 1, h6, hl, ha => by
    rw [scan_run l n (by omega) (by omega) (fun j hj => ha j (by omega))]
    have hd : l.drop n = l[n] :: l.drop (n + 1) := List.drop_eq_getElem_cons (by omega)
    have hg : l.getD n 0 = l[n] := by simp [List.getD, List.getElem?_eq_getElem (show n < l.length by omega)]
    have h1 := ha n (by omega)
    rw [hg] at h1
    rw [hd, scan, if_neg (by omega), if_neg (by omega), val, hg]
/-- What the document's next gives. -/
def nextOut (l : List UInt8) (most : Int) : Nat × Nat × Nat :=
  if (scan l 0 0).2.2 ≠ 0 then (0, 0, (scan l 0 0).2.2)
  else if 1099511627776 < ((scan l 0 0).1 : Int) ∨ most < ((scan l 0 0).1 : Int) then (0, 0, 4)
  else scan l 0 0
theorem next_six (l : List UInt8) (most : Int) (hl : 6 ≤ l.length) (ha : ∀ j, j < 6 → 128 ≤ (l.getD j 0).toNat) : nextOut l most = (0, 0, 3) := by
  have h := scan_run l 6 (Nat.le_refl _) hl ha
  have h2 : scan (l.drop 6) 6 (val l 6) = (0, 0, 3) := by
    cases l.drop 6 with
    | nil => simp [scan]
    | cons c r => simp [scan]
  unfold nextOut
  rw [h, h2]; simp
theorem next_short (l : List UInt8) (most : Int) (hl : l.length < 6) (ha : ∀ j, j < l.length → 128 ≤ (l.getD j 0).toNat) : nextOut l most = (0, 0, 2) := by
  have h := scan_run l l.length (by omega) (Nat.le_refl _) ha
  rw [List.drop_length] at h
  have h2 : scan ([] : List UInt8) l.length (val l l.length) = (0, 0, 2) := by simp [scan]; omega
  unfold nextOut
  rw [h, h2]; simp
theorem next_low (l : List UInt8) (n : Nat) (h6 : n < 6) (hl : n < l.length) (ha : ∀ j, j < n → 128 ≤ (l.getD j 0).toNat) (hn : (l.getD n 0).toNat < 128) :
    scan l 0 0 = if (l.getD n 0).toNat = 0 ∧ 0 < n then (0, 0, 3) else (val l (n + 1), n + 1, 0) := by
  rw [scan_run l n (by omega) (by omega) ha]
  have hd : l.drop n = l[n] :: l.drop (n + 1) := List.drop_eq_getElem_cons hl
  have hg : l.getD n 0 = l[n] := by simp [List.getD, List.getElem?_eq_getElem hl]
  rw [hg] at hn ⊢
  rw [hd, scan, if_neg (by omega), if_pos hn, val, hg]
end Go.Proofs.YticdpfjajkfheaaDoor.OctM
