/- Which patches may be, by the document; what is unlike in cards; what is within: what each returns. -/
import Derived.Test.YtadmaalhhigbeaaCardE
import Derived.Test.YtadmaalhhigbeaaSteady
namespace Go.Proofs.Ytadmaalhhigbeaa
set_option linter.unusedVariables false
open Go Go.RowKit BitM

section
variable {P : Program} {ops : Array Oper} {rest : List Oper} {op : Oper} {a : Act} {w : World} {Q : Exit → Act → World → Prop}
/-- A load of a whole struct, where its guard lets it. -/
theorem wpList_load_g (hw : Region.wanted op (yielded ops a.tmps) = true) (ty : TypeId) (x : Operand) (ho : op.op = .load ty x)
    (b o : Nat) (hx : a.eval x = .pointer (some ⟨b, o, none⟩)) (cs : List Value) (d : TypeDesc) (hc : w.rangeAt b o cs)
    (hu : P.underlying ty = some d) (hd : d.isRow = true) (hi : (P.info? ty).map (·.size) = some cs.length)
    (h : wpList P ops Q rest (a.put op.dst (.agg cs.toArray)) w) : wpList P ops Q (op :: rest) a w :=
  wpList_step fun K hK => by
    rw [if_pos hw]
    exact wp_load_mid ty x ho b o hx cs d hc hu hd hi (hK _ _ h)
theorem exec_load (ty : TypeId) (x : Operand) (ho : op.op = .load ty x) (b o : Nat) (hx : a.eval x = .pointer (some ⟨b, o, none⟩)) (cs : List Value) (d : TypeDesc) (hc : w.rangeAt b o cs)
    (hu : P.underlying ty = some d) (hd : d.isRow = true) (hi : (P.info? ty).map (·.size) = some cs.length) : (execOp a.eval op).run P w = .ok (.value (.agg cs.toArray)) w := by
  unfold execOp
  simp only [ho, hx, Instr.loadAt, Instr.sureAddr, Sem.run_bind, Sem.run_pure, Result.andThen_ok, run_loadVar_mid w b o ty cs d hc hu hd hi]
end

/-- Are the first k fields of a patch as they must be? -/
def fok (x : BitVec 32) (f : List V3) (k : Nat) : Bool := (List.range k).all fun i => vchk (f.getD i zv) && (decide ((f.getD i zv).1 = 0) || has x (i : Int))
theorem fok_succ (x : BitVec 32) (f : List V3) (k : Nat) : fok x f (k + 1) = (fok x f k && (vchk (f.getD k zv) && (decide ((f.getD k zv).1 = 0) || has x (k : Int)))) := by
  unfold fok
  rw [List.range_succ, List.all_append]
  simp
theorem fok_mono (x : BitVec 32) (f : List V3) {j k : Nat} (h : j ≤ k) (hf : fok x f j = false) : fok x f k = false := by
  induction k with
  | zero => obtain rfl : j = 0 := by omega
            exact hf
  | succ k ih =>
    by_cases e : j = k + 1
    · subst e; exact hf
    · rw [fok_succ, ih (by omega)]; rfl
/-- What is wrong with a patch. -/
def pchk (x : BitVec 32) (lab : Int) (f : List V3) : Int :=
  if 511 < x.toNat ∨ x.toNat = 0 then 11 else if 65536 ≤ lab ∨ (lab ≠ 0 ∧ has x 8 = false) then 1 else if fok x f 8 then 0 else 1

end Go.Proofs.Ytadmaalhhigbeaa
