/- A filter's parts: slices.Clone of nodes, and what the program's Kids returns. -/
import Derived.Test.YtadmaalhhigbeaaPrdG
namespace Go.Proofs.Ytadmaalhhigbeaa
set_option linter.unusedVariables false
set_option linter.unusedSimpArgs false
open Go Go.RowKit

/-- What a call gives that tells nodes, in a row of its own. -/
def GivesNodes (w : World) (l : List Nd) : Ending → World → Prop := fun e w' => ∃ A c, e = .returned (.slice A l.length c) ∧ w'.ownsRow w.heap.size 71 5 (.slice A l.length c) l.length (ncs l) ∧ Below w.heap.size w w'
set_option maxRecDepth 100000 in
set_option maxHeartbeats 1600000 in
theorem clone_nodes (A : Option Addr) (n c : Nat) (l : List Nd) (w : World) (hn : l.length = n) (hs : Sees w w.heap.size A (ncs l)) (hm : n ≤ 65536) :
    Calls Try.prog 85 #[.slice A n c] w (GivesNodes w l) := by
  obtain ⟨i1, ji, jz0, jz1, jz2⟩ := info_parts info_noded
  subst hn
  rcases A with _ | ad
  · have hl : l = [] := by
      rcases l with _ | ⟨x, l⟩
      · rfl
      · obtain ⟨b, o, h, _⟩ := hs (by rw [ncs_len]; simp)
        cases h
    subst hl
    have hq := fun wx => Lib.run_eql_slice_nil (P := Try.prog) wx 23 71 none 0 c 0 0 Try.underlying23
    go_enter Try.func85, Try.ntmps85
    go_wp2
    go_ret
    exact ⟨none, 0, rfl, World.ownsRow_nil _ _ _ _, Below.refl _ _⟩
  · have hq := fun wx => Lib.run_eql_slice_nil (P := Try.prog) wx 23 71 (some ad) l.length c 0 0 Try.underlying23
    have R1 := row_lit w w.heap.size 71 5 0 #[] (Nat.le_refl _) (by simp [maxLen]) rfl
    go_enter Try.func85, Try.ntmps85
    go_wp2_with (first
      | (at_builtin
         refine wpList_appk _ rfl (.tmp 5) (.tmp 6) 23 rfl w.heap.size 71 i1 _ 5 48 Try.underlying23 ji jz0 jz1 jz2 rfl (by decide) (.slice (some ⟨w.heap.size, 0, none⟩) 0 0) 0 [] rfl R1 w.heap.size (some ad) c (ncs l) l.length rfl (by rw [ncs_len]; omega) (hs.alloc (Nat.le_refl _) (.cells #[] 71)) (ncs_one l) (by unfold maxLen; omega) (by omega) (by simp) ?_
         intro A3 c3 w3 hr3 hb3 hg3 hat3
         rw [Nat.zero_add, List.nil_append] at hr3
         simp only [Nat.zero_add])
      | fail)
    go_ret
    exact ⟨A3, c3, rfl, hr3, ((Below.refl _ _).alloc (Nat.le_refl _) _).trans hb3⟩

end Go.Proofs.Ytadmaalhhigbeaa
