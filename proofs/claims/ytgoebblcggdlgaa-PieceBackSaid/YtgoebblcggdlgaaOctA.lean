/- octet.number, fresh, Num, Str, Flag: what each returns. -/
import Derived.Test.YtgoebblcggdlgaaWords2
import Derived.Test.YtgoebblcggdlgaaOctM
namespace Go.Proofs.Ytgoebblcggdlgaa
set_option linter.unusedVariables false
open Go.RowKit OctM

theorem oct_info : (Try.prog.info? 5).map (fun i => (i.zero, i.size, i.bytes)) = some (some (.int .u8 0), 1, 1) := by kernel_rfl
theorem oct_size : (Try.prog.info? 5).map (·.size) = some 1 := by kernel_rfl
theorem oct_parts : ∃ i0, Try.prog.info? 5 = some i0 ∧ i0.zero = some (.int .u8 0) ∧ i0.size = 1 ∧ i0.bytes = 1 := by
  have h := oct_info
  cases hi : Try.prog.info? 5 with
  | none => rw [hi] at h; cases h
  | some i0 =>
    rw [hi] at h
    simp only [Option.map_some, Option.some.injEq, Prod.mk.injEq] at h
    exact ⟨i0, rfl, h.1, h.2.1, h.2.2⟩

theorem oct_one (m : Nat) (h : m < 256) : bvs [UInt8.ofNat m] = [Value.int .u8 (m : Int)] := by
  simp [bvs, bv, low_nat h]

/-- Bytes laid anew: the call's own row. -/
def GivesBytes (w : World) (xs : List UInt8) : Ending → World → Prop := fun e w' => ∃ A' c', e = .returned (.slice A' xs.length c') ∧ Own w' w.heap.size 5 (.slice A' xs.length c') (bvs xs) ∧ Below w.heap.size w w'

/-- A truth's number. -/
def truth (b : Bool) : Nat := if b then 1 else 0
end Go.Proofs.Ytgoebblcggdlgaa
