/- octet's Reader: texts and truths. -/
import Derived.Test.YticdpfjajkfheaaDoorOctC
namespace Go.Proofs.YticdpfjajkfheaaDoor
set_option linter.unusedVariables false
open Go.RowKit OctM

/-- s[k:k+m]: what the cut is, under one name. -/
theorem cut2_fact {P : Program} (t e : TypeId) (i : TypeInfo) (ht : P.underlying t = some (.slice e)) (hi : P.info? e = some i) (hsz : i.size = 1) {w : World} {B : Nat} {A : Option Addr} {xs : List Value} (h : Sees w B A xs)
    (n k m c : Nat) (K H : Int) (kl kh : IntKind) (hn : xs.length = n) (hkm : k + m ≤ n) (hK : K = (k : Int)) (hH : H = ((k + m : Nat) : Int)) (hc : n ≤ c) :
    ∃ A2, (∀ wx, (Instr.slice t (.slice A n c) (some (.int kl K)) (some (.int kh H)) none).run P wx = .ok (.slice A2 m (c - k)) wx) ∧ Sees w B A2 ((xs.drop k).take m) := by
  refine ⟨if c = k then A else A.map (·.add k), fun wx => ?_, (h.cut (by omega)).take m⟩
  have he : P.elem t = e := by simp [Program.elem, ht]
  have ht' : P.underlying t = some (.slice (P.elem t)) := by rw [he]; exact ht
  rw [run_slice_lh wx t A n c ht' kl kh K H (by omega) (by omega) (by omega), he]
  simp [sizeOf, typeInfo, hi, hsz, sliced, hK, hH]
  try omega

/-- What a reader's block holds. -/
theorem Rd.facts {w : World} {base g : Nat} {l : List UInt8} {at_ : Nat} {err : Int} (h : Rd w base g l at_ err) :
    ∃ A c, l.length ≤ c ∧ c ≤ maxLen ∧ w.cell? ⟨g, 0, none⟩ = some (.slice A l.length c) ∧ w.cell? ⟨g, 1, none⟩ = some (.int .i64 at_) ∧ w.cell? ⟨g, 2, none⟩ = some (.int .i64 err) ∧
      w.frozen? ⟨g, 1, none⟩ = false ∧ w.frozen? ⟨g, 2, none⟩ = false ∧ Sees w g A (bvs l) := by
  obtain ⟨A, c, hlc, hcm, ho, hs⟩ := h
  have h0 := ho.cell 0 (by simp)
  have h1 := ho.cell 1 (by simp)
  have h2 := ho.cell 2 (by simp)
  simp only [List.getElem_cons_succ, List.getElem_cons_zero] at h0 h1 h2
  exact ⟨A, c, hlc, hcm, h0, h1, h2, ho.frozen 1, ho.frozen 2, hs⟩

theorem numOut_at (l : List UInt8) (at_ : Nat) (err most : Int) (ha : at_ ≤ l.length) : (numOut l at_ err most).2.1 ≤ l.length := by
  have := scan_size (l.drop at_) 0 0
  rw [List.length_drop] at this
  unfold numOut
  split
  · exact ha
  · split
    · exact ha
    · split
      · exact ha
      · simp; omega

/-- What taking a truth gives. -/
def flagOut (l : List UInt8) (at_ : Nat) (err : Int) : Bool × Nat × Int :=
  if err ≠ 0 then (false, at_, err)
  else if 1 < (numOut l at_ 0 1099511627776).1 then (false, at_, 3)
  else (decide ((numOut l at_ 0 1099511627776).1 = 1), (numOut l at_ 0 1099511627776).2)

end Go.Proofs.YticdpfjajkfheaaDoor
