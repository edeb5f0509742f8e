/- Pieces: pieces held against each other; PieceSectors: the law's walk. -/
import Derived.Test.YtgoebblcggdlgaaPieF
import Derived.Test.YtgoebblcggdlgaaCardI
namespace Go.Proofs.Ytgoebblcggdlgaa
set_option linter.unusedVariables false
set_option linter.unusedSimpArgs false
open Go Go.RowKit OctM SumM

theorem fieldsPi : Try.prog.underlying 25 = some (.struct (Try.prog.fieldsOf 25)) := by kernel_rfl
theorem fieldsRPi : Try.prog.underlying 23 = some (.struct (Try.prog.fieldsOf 23)) := by kernel_rfl
theorem eq_pie (d : Nat) (u v : Pc) (w : World) : (Op.equalIn (d + 2) 25 (.agg (pcel u).toArray) (.agg (pcel v).toArray)).run Try.prog w = .ok (decide (u = v)) w := by
  obtain ⟨a, b, f, g, l⟩ := u
  obtain ⟨a', b', f', g', l'⟩ := v
  rw [run_equalIn_agg w (d + 1) 25 _ _ fieldsPi (by kernel_rfl)]
  have e : (Try.prog.fieldsOf 25).toList = [⟨"Life", 3, 0, false, "", "", 0⟩, ⟨"Place", 3, 1, false, "", "", 8⟩, ⟨"First", 4, 2, false, "", "", 16⟩, ⟨"Last", 4, 3, false, "", "", 17⟩, ⟨"Body", 9, 4, false, "", "", 24⟩] := by kernel_rfl
  rw [e]
  simp only [pcel, Op.eqFields]
  simp [go_sem, part, isAgg]
  by_cases h1 : a = a' <;> by_cases h2 : b = b' <;> by_cases h3 : f = f' <;> by_cases h4 : g = g' <;> simp [h1, h2, h3, h4, str_list, ite_ok]
theorem eq_rpie (d : Nat) (u v : Pc) (w : World) : (Op.equalIn (d + 2) 23 (.agg (pcel u).toArray) (.agg (pcel v).toArray)).run Try.prog w = .ok (decide (u = v)) w := by
  obtain ⟨a, b, f, g, l⟩ := u
  obtain ⟨a', b', f', g', l'⟩ := v
  rw [run_equalIn_agg w (d + 1) 23 _ _ fieldsRPi (by kernel_rfl)]
  have e : (Try.prog.fieldsOf 23).toList = [⟨"Life", 3, 0, false, "", "", 0⟩, ⟨"Place", 3, 1, false, "", "", 8⟩, ⟨"First", 4, 2, false, "", "", 16⟩, ⟨"Last", 4, 3, false, "", "", 17⟩, ⟨"Body", 9, 4, false, "", "", 24⟩] := by kernel_rfl
  rw [e]
  simp only [pcel, Op.eqFields]
  simp [go_sem, part, isAgg]
  by_cases h1 : a = a' <;> by_cases h2 : b = b' <;> by_cases h3 : f = f' <;> by_cases h4 : g = g' <;> simp [h1, h2, h3, h4, str_list, ite_ok]
theorem guard_pie : Try.prog.eqGuardType Try.prog.depth 25 = false := by kernel_rfl
theorem guard_rpie : Try.prog.eqGuardType Try.prog.depth 23 = false := by kernel_rfl
end Go.Proofs.Ytgoebblcggdlgaa
