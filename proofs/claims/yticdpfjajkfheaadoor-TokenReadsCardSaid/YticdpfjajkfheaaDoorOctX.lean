/- Two readers beside one another: each read, by one and by the other. -/
import Derived.Test.YticdpfjajkfheaaDoorOctW
namespace Go.Proofs.YticdpfjajkfheaaDoor
set_option linter.unusedVariables false
open Go.RowKit OctM

section
variable {W w : World} {gr gm : Nat} {l : List UInt8} {a : Nat} {e : Int} {l' : List UInt8} {e' : Int}
theorem two_num1 (y : Int) (T : Two W w gr gm l a e l' e') (ha : a ≤ l.length) (hm : l.length ≤ 2000) :
    Calls Tryd.prog 50 #[.pointer (some ⟨gr, 0, none⟩), .int .i64 y] w fun x w' => x = .returned (.int .i64 ((numOut l a e y).1 : Nat)) ∧ Two W w' gr gm l (numOut l a e y).2.1 (numOut l a e y).2.2 l' e' :=
  (rd_num _ gr l a e y w T.1 ha (by omega)).mono fun x w' h => ⟨h.1, T.first h.2.1 h.2.2⟩
theorem two_num2 (y : Int) {a2 : Nat} {e2 : Int} (T : Two W w gr gm l a2 e2 (l.drop a) e) (hm : l.length ≤ 2000) :
    Calls Tryd.prog 52 #[.pointer (some ⟨gm, 0, none⟩), .int .i64 y] w fun x w' => x = .returned (.int .i64 ((numOut l a e y).1 : Nat)) ∧ Two W w' gr gm l a2 e2 (l.drop (numOut l a e y).2.1) (numOut l a e y).2.2 :=
  (rr_num _ gm (l.drop a) e y w T.2.1 (by simp; omega)).mono fun x w' h => by
    rw [same_num] at h
    exact ⟨h.1, T.second h.2.1 h.2.2⟩
theorem two_fail1 (y : Int) (T : Two W w gr gm l a e l' e') :
    Calls Tryd.prog 51 #[.pointer (some ⟨gr, 0, none⟩), .int .i64 y] w fun x w' => x = .returned (.tuple #[]) ∧ Two W w' gr gm l a (failOut e y) l' e' :=
  (rd_fail _ gr l a e y w T.1).mono fun x w' h => ⟨h.1, T.first h.2.1 h.2.2⟩
theorem two_fail2 (y : Int) (T : Two W w gr gm l a e l' e') :
    Calls Tryd.prog 73 #[.pointer (some ⟨gm, 0, none⟩), .int .i64 y] w fun x w' => x = .returned (.tuple #[]) ∧ Two W w' gr gm l a e l' (failOut e' y) :=
  (rr_fail _ gm l' e' y w T.2.1).mono fun x w' h => ⟨h.1, T.second h.2.1 h.2.2⟩
theorem drewN_below (w : World) (k : Nat) : Below w.heap.size w (w.drewN k) := below_drewN (Below.refl _ _) k
theorem two_left (T : Two W w gr gm l a e l' e') (ha : a ≤ l.length) (hm : l.length ≤ 2000) (q : Nat) (hq : q = l.length - a) :
    Calls Tryd.prog 31 #[.pointer (some ⟨gr, 0, none⟩)] w fun x w' => x = .returned (.int .i64 (q : Int)) ∧ Below w.heap.size w w' :=
  (rd_left _ gr l a e w T.1 ha (by omega)).mono fun x w' ⟨h, k, hk⟩ => ⟨by rw [h, hq]; congr 2; omega, hk ▸ drewN_below w k⟩
theorem two_err (T : Two W w gr gm l a e l' e') :
    Calls Tryd.prog 30 #[.pointer (some ⟨gr, 0, none⟩)] w fun x w' => x = .returned (.int .i64 e) ∧ Below w.heap.size w w' :=
  (rd_err _ gr l a e w T.1).mono fun x w' ⟨h, hk⟩ => ⟨h, hk ▸ Below.refl _ _⟩
theorem two_end1 (T : Two W w gr gm l a e l' e') (ha : a ≤ l.length) (hm : l.length ≤ 2000) :
    Calls Tryd.prog 32 #[.pointer (some ⟨gr, 0, none⟩)] w fun x w' => x = .returned (.int .i64 (endOut l.length a e)) ∧ Below w.heap.size w w' :=
  (rd_end _ gr l a e w T.1 ha (by omega)).mono fun x w' ⟨h, k, hk⟩ => ⟨h, hk ▸ drewN_below w k⟩
theorem two_cells (T : Two W w gr gm l a e l' e') : w.cell? ⟨gm, 0, none⟩ = some (.string (str l')) ∧ w.cell? ⟨gm, 1, none⟩ = some (.int .i64 e') := ⟨T.2.1.facts.1, T.2.1.facts.2.1⟩
end
end Go.Proofs.YticdpfjajkfheaaDoor
