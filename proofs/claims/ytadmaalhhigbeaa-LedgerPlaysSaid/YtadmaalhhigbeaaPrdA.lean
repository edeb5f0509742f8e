/- Nodes: what they look like in memory; how many parts a kind has; which nodes may be: what each returns. -/
import Derived.Test.YtadmaalhhigbeaaPrdM
import Derived.Test.YtadmaalhhigbeaaLoadG
namespace Go.Proofs.Ytadmaalhhigbeaa
set_option linter.unusedVariables false
set_option linter.unusedSimpArgs false
open Go Go.RowKit

theorem info_node : (Try.prog.info? 71).map (·.size) = some 5 := by kernel_rfl
theorem info_val3 : (Try.prog.info? 69).map (·.size) = some 3 := by kernel_rfl

set_option maxRecDepth 100000 in
set_option maxHeartbeats 800000 in
theorem parts_any (op : Int) (w : World) : Calls Try.prog 90 #[.int .i64 op] w fun e w' => e = .returned (.int .i64 (par op)) ∧ w = w' := by
  by_cases h0 : op = 10
  · subst h0
    go_enter Try.func90, Try.ntmps90
    go_wp2
    go_ret
    exact ⟨rfl, rfl⟩
  by_cases h1 : op = 11
  · subst h1
    go_enter Try.func90, Try.ntmps90
    go_wp2
    go_ret
    exact ⟨rfl, rfl⟩
  by_cases h2 : op = 12
  · subst h2
    go_enter Try.func90, Try.ntmps90
    go_wp2
    go_ret
    exact ⟨rfl, rfl⟩
  have hp : Hid (par op = 0) := Lib.hid (by unfold par; simp [h0, h1, h2])
  have b0 : (op == 10) = false := by simpa using h0
  have b1 : (op == 11) = false := by simpa using h1
  have b2 : (op == 12) = false := by simpa using h2
  clear h0 h1 h2
  go_enter Try.func90, Try.ntmps90
  go_wp2
  go_ret
  exact ⟨by rw [hp.out]; rfl, rfl⟩
set_option maxRecDepth 100000 in
set_option maxHeartbeats 800000 in
theorem rparts_any (op : Int) (w : World) : Calls Try.prog 93 #[.int .i64 op] w fun e w' => e = .returned (.int .i64 (par op)) ∧ w = w' := by
  by_cases h0 : op = 10
  · subst h0
    go_enter Try.func93, Try.ntmps93
    go_wp2
    go_ret
    exact ⟨rfl, rfl⟩
  by_cases h1 : op = 11
  · subst h1
    go_enter Try.func93, Try.ntmps93
    go_wp2
    go_ret
    exact ⟨rfl, rfl⟩
  by_cases h2 : op = 12
  · subst h2
    go_enter Try.func93, Try.ntmps93
    go_wp2
    go_ret
    exact ⟨rfl, rfl⟩
  have hp : Hid (par op = 0) := Lib.hid (by unfold par; simp [h0, h1, h2])
  have b0 : (op == 10) = false := by simpa using h0
  have b1 : (op == 11) = false := by simpa using h1
  have b2 : (op == 12) = false := by simpa using h2
  clear h0 h1 h2
  go_enter Try.func93, Try.ntmps93
  go_wp2
  go_ret
  exact ⟨by rw [hp.out]; rfl, rfl⟩
end Go.Proofs.Ytadmaalhhigbeaa
