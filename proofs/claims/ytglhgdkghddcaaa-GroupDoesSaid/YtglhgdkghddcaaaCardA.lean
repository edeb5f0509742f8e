/- Values and fields of cards: which may be, which are too long: what each returns. -/
import Derived.Test.YtglhgdkghddcaaaBlk
import Derived.Test.YtglhgdkghddcaaaBitA
namespace Go.Proofs.Ytglhgdkghddcaaa
set_option linter.unusedVariables false
open Go Go.RowKit BitM

def empty : ByteArray := ⟨#[]⟩
/-- May a value be? -/
def vchk (v : V3) : Bool :=
  if v.1 = 0 then decide (v.2.1 = 0 ∧ v.2.2 = empty)
  else if v.1 = 1 then decide (0 ≤ v.2.1 ∧ v.2.1 ≤ 1099511627776 ∧ v.2.2 = empty)
  else if v.1 = 2 then decide (v.2.1 = 0 ∧ v.2.2.size ≤ 24)
  else false

theorem nil_str_iff (s : ByteArray) : s.toList = [] ↔ s = empty := by
  rw [ByteArray.toList_eq]
  constructor
  · intro h
    apply ByteArray.ext
    apply Array.ext'
    simpa [empty] using h
  · rintro rfl; rfl
theorem vchk_0 (n : Int) (s : ByteArray) : vchk (0, n, s) = decide (n = 0 ∧ s.toList = []) := by
  unfold vchk
  simp only [if_true, nil_str_iff]
theorem vchk_1 (n : Int) (s : ByteArray) : vchk (1, n, s) = decide (0 ≤ n ∧ n ≤ 1099511627776 ∧ s.toList = []) := by
  unfold vchk
  simp only [nil_str_iff]
  rfl
theorem vchk_2 (n : Int) (s : ByteArray) : vchk (2, n, s) = decide (n = 0 ∧ s.size ≤ 24) := rfl
theorem vchk_3 {k : Int} (n : Int) (s : ByteArray) (h0 : k ≠ 0) (h1 : k ≠ 1) (h2 : k ≠ 2) : vchk (k, n, s) = false := by
  unfold vchk
  simp only [h0, h1, h2, if_false]

/-- The values of fields. -/
def vals (f : List V3) : Bool := f.all vchk
def tooLong (f : List V3) : Bool := f.any fun v => decide (200 < v.2.2.size)

theorem box_cells (w : World) (f : List V3) (T : TypeId) (k : Nat) (hk : k < f.length) :
    (w.alloc (.cells (fcells f).toArray T)).cell? ⟨w.heap.size, k * 3, none⟩ = some (.int .i64 f[k].1) ∧ (w.alloc (.cells (fcells f).toArray T)).cell? ⟨w.heap.size, k * 3 + 1, none⟩ = some (.int .i64 f[k].2.1) ∧
      (w.alloc (.cells (fcells f).toArray T)).cell? ⟨w.heap.size, k * 3 + 2, none⟩ = some (.string f[k].2.2) := by
  have h := Blk.new w (fcells f) T
  have h2 := fcells_get f k hk
  rw [Nat.mul_comm k 3]
  exact ⟨h.cell h2.1, h.cell h2.2.1, h.cell h2.2.2⟩

end Go.Proofs.Ytglhgdkghddcaaa
