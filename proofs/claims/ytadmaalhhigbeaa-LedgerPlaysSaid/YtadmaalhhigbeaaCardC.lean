/- Cards: a patch is written to a card: what each returns. -/
import Derived.Test.YtadmaalhhigbeaaCardB
namespace Go.Proofs.Ytadmaalhhigbeaa
set_option linter.unusedVariables false
open Go Go.RowKit BitM

/-- The cells of a card, of a patch. -/
def ccells (id ver lab : Int) (f : List V3) : List Value := [.int .i64 id, .int .i64 ver, .int .u32 lab] ++ fcells f
def pcells (m lab : Int) (f : List V3) : List Value := [.int .u32 m, .int .u32 lab] ++ fcells f
theorem ccells_len (id ver lab : Int) {f : List V3} (h : f.length = 8) : (ccells id ver lab f).length = 27 := by
  unfold ccells; rw [List.length_append, fcells_len, h]; rfl
theorem pcells_len (m lab : Int) {f : List V3} (h : f.length = 8) : (pcells m lab f).length = 26 := by
  unfold pcells; rw [List.length_append, fcells_len, h]; rfl
theorem ccells_one (id ver lab : Int) (f : List V3) : ∀ u ∈ ccells id ver lab f, u.oneCell' = true := by
  intro u hu
  rcases List.mem_append.1 hu with h | h
  · simp at h; rcases h with rfl | rfl | rfl <;> rfl
  · exact fcells_one f u h
theorem pcells_one (m lab : Int) (f : List V3) : ∀ u ∈ pcells m lab f, u.oneCell' = true := by
  intro u hu
  rcases List.mem_append.1 hu with h | h
  · simp at h; rcases h with rfl | rfl <;> rfl
  · exact fcells_one f u h
theorem Blk.card {w : World} {g : Nat} {id ver lab : Int} {f : List V3} (h : Blk w g (ccells id ver lab f)) :
    w.cell? ⟨g, 0, none⟩ = some (.int .i64 id) ∧ w.cell? ⟨g, 1, none⟩ = some (.int .i64 ver) ∧ w.cell? ⟨g, 2, none⟩ = some (.int .u32 lab) := ⟨h.cell rfl, h.cell rfl, h.cell rfl⟩
theorem Blk.patch {w : World} {g : Nat} {m lab : Int} {f : List V3} (h : Blk w g (pcells m lab f)) :
    w.cell? ⟨g, 0, none⟩ = some (.int .u32 m) ∧ w.cell? ⟨g, 1, none⟩ = some (.int .u32 lab) := ⟨h.cell rfl, h.cell rfl⟩
theorem Blk.putLab {w : World} {g : Nat} {id ver lab : Int} {f : List V3} (h : Blk w g (ccells id ver lab f)) (l : Int) : Blk (w.setCell ⟨g, 2, none⟩ (.int .u32 l)) g (ccells id ver l f) := h.set 2 _
theorem Blk.putVer {w : World} {g : Nat} {id ver lab : Int} {f : List V3} (h : Blk w g (ccells id ver lab f)) (v : Int) : Blk (w.setCell ⟨g, 1, none⟩ (.int .i64 v)) g (ccells id v lab f) := h.set 1 _
theorem below_set {B b : Nat} (hb : B ≤ b) {a w : World} (h : Below B a w) (j : Nat) (v : Value) : Below B a (w.setCell ⟨b, j, none⟩ v) := h.setCell hb v
theorem Own.setOther {w : World} {base : Nat} {e : TypeId} {v : Value} {xs : List Value} (h : Own w base e v xs) {b : Nat} (hb : b < base) (j : Nat) (u : Value) : Own (w.setCell ⟨b, j, none⟩ u) base e v xs :=
  h.setsOther hb [u] j
/-- A whole block is laid into another one. -/
theorem Blk.whole {w : World} {g : Nat} {cs ds : List Value} (h : Blk w g cs) (hl : ds.length = cs.length) : Blk (w.setCells g 0 ds) g ds := by
  have h2 := h.sets ds 0 (by omega)
  rw [List.take_zero, List.nil_append, List.drop_eq_nil_of_le (by omega), List.append_nil] at h2
  exact h2
theorem zc27 : (ccells 0 0 0 zeros).toArray = #[Value.int .i64 0, .int .i64 0, .int .u32 0, .int .i64 0, .int .i64 0, .string { data := #[] }, .int .i64 0, .int .i64 0, .string { data := #[] }, .int .i64 0, .int .i64 0, .string { data := #[] }, .int .i64 0, .int .i64 0, .string { data := #[] }, .int .i64 0, .int .i64 0, .string { data := #[] }, .int .i64 0, .int .i64 0, .string { data := #[] }, .int .i64 0, .int .i64 0, .string { data := #[] }, .int .i64 0, .int .i64 0, .string { data := #[] }] := rfl
/-- A card's version behind a write. -/
def nextVer (v : Int) : Int := if v < 1099511627776 then v + 1 else v

end Go.Proofs.Ytadmaalhhigbeaa
