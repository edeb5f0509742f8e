/- Cuts of rows of structs, s[:m] and s[k:], for regions that draw their order. -/
import Derived.Test.YtglhgdkghddcaaaRowK
import Derived.Test.YtglhgdkghddcaaaLoadG
namespace Go.Proofs.Ytglhgdkghddcaaa
set_option linter.unusedVariables false
set_option linter.unusedSimpArgs false
open Go Go.RowKit

theorem exec_slice_h {P : Program} {a : Act} {op : Oper} {w : World} (t : TypeId) (x y : Operand) (ho : op.op = .slice t x none (some y) none) (e : TypeId) (ht : P.underlying t = some (.slice e)) (v u r : Value) (hx : a.eval x = v) (hy : a.eval y = u)
    (hr : ∀ wx, (Instr.slice t v none (some u) none).run P wx = .ok r wx) : (execOp a.eval op).run P w = .ok (.value r) w := by
  have he : P.elem t = e := by simp [Program.elem, ht]
  have ht' : P.underlying t = some (.slice (P.elem t)) := by rw [he]; exact ht
  unfold execOp
  simp only [ho, hx, hy, Option.map_some, Option.map_none, Sem.run_bind, run_sliceAt_slice _ _ _ _ _ _ ht', hr, Result.andThen_ok, Sem.run_pure]
theorem exec_slice_l {P : Program} {a : Act} {op : Oper} {w : World} (t : TypeId) (x y : Operand) (ho : op.op = .slice t x (some y) none none) (e : TypeId) (ht : P.underlying t = some (.slice e)) (v u r : Value) (hx : a.eval x = v) (hy : a.eval y = u)
    (hr : ∀ wx, (Instr.slice t v (some u) none none).run P wx = .ok r wx) : (execOp a.eval op).run P w = .ok (.value r) w := by
  have he : P.elem t = e := by simp [Program.elem, ht]
  have ht' : P.underlying t = some (.slice (P.elem t)) := by rw [he]; exact ht
  unfold execOp
  simp only [ho, hx, hy, Option.map_some, Option.map_none, Sem.run_bind, run_sliceAt_slice _ _ _ _ _ _ ht', hr, Result.andThen_ok, Sem.run_pure]

/-- s[:m] -/
theorem rowcut_h {P : Program} (t e : TypeId) (i : TypeInfo) (size : Nat) (ht : P.underlying t = some (.slice e)) (hi : P.info? e = some i) (hsz : i.size = size)
    (ad : Addr) (n m c : Nat) (H : Int) (kh : IntKind) (hm : m ≤ n) (hH : H = (m : Int)) (hc : n ≤ c) :
    ∃ ad2, (∀ wx, (Instr.slice t (.slice (some ad) n c) none (some (.int kh H)) none).run P wx = .ok (.slice (some ad2) m c) wx) ∧
      ∀ (wx : World) (B : Nat) (xs : List Value), Sees wx B (some ad) xs → Sees wx B (some ad2) (xs.take (m * size)) := by
  refine ⟨if c = 0 then ad else ad.add 0, fun wx => ?_, fun wx B xs h => ?_⟩
  · have he : P.elem t = e := by simp [Program.elem, ht]
    have ht' : P.underlying t = some (.slice (P.elem t)) := by rw [he]; exact ht
    rw [run_slice_h wx t (some ad) n c ht' kh H (by omega) (by omega), he]
    simp [sizeOf, typeInfo, hi, hsz, sliced, hH]
    split <;> rfl
  · have e2 : (if c = 0 then ad else ad.add 0) = ad := by split <;> simp [Addr.add]
    rw [e2]
    exact h.take _
/-- s[k:] -/
theorem rowcut_l {P : Program} (t e : TypeId) (i : TypeInfo) (size : Nat) (ht : P.underlying t = some (.slice e)) (hi : P.info? e = some i) (hsz : i.size = size)
    (ad : Addr) (n m k c : Nat) (K : Int) (kl : IntKind) (hn : n = m + k) (hK : K = (k : Int)) (hc : n ≤ c) :
    ∃ ad2, (∀ wx, (Instr.slice t (.slice (some ad) n c) (some (.int kl K)) none none).run P wx = .ok (.slice (some ad2) m (c - k)) wx) ∧
      ∀ (wx : World) (B : Nat) (xs : List Value), xs.length = n * size → Sees wx B (some ad) xs → Sees wx B (some ad2) (xs.drop (k * size)) := by
  refine ⟨if c = k then ad else ad.add (k * size), fun wx => ?_, fun wx B xs hx h => ?_⟩
  · have he : P.elem t = e := by simp [Program.elem, ht]
    have ht' : P.underlying t = some (.slice (P.elem t)) := by rw [he]; exact ht
    rw [run_slice_l wx t (some ad) n c ht' kl K (by omega) (by omega), he]
    have hm : n - k = m := by omega
    simp [sizeOf, typeInfo, hi, hsz, sliced, hK, hm]
    split <;> rfl
  · intro hpos
    rw [List.length_drop, hx, hn, Nat.add_mul] at hpos
    have hm : 0 < m := by
      rcases Nat.eq_zero_or_pos m with h0 | h0
      · rw [h0, Nat.zero_mul] at hpos; omega
      · exact h0
    obtain ⟨b, o, e, hb, hcell⟩ := h (by rw [hx, hn, Nat.add_mul]; omega)
    cases e
    rw [if_neg (by omega)]
    refine ⟨b, o + k * size, by simp [Addr.add], hb, fun j hj => ?_⟩
    rw [List.length_drop] at hj
    rw [Nat.add_assoc, hcell (k * size + j) (by omega)]
    simp
end Go.Proofs.Ytglhgdkghddcaaa
