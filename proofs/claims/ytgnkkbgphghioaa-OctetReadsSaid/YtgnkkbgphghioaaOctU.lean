/- The document's reader: End. -/
import Derived.Test.YtgnkkbgphghioaaOctT
namespace Go.Proofs.Ytgnkkbgphghioaa
set_option linter.unusedVariables false
open Go.RowKit OctM

theorem rr_end (base g : Nat) (l : List UInt8) (err : Int) (w : World) (h : Rr w base g l err) :
    Calls Try.prog 32 #[.pointer (some ⟨g, 0, none⟩)] w fun e w' => e = .returned (.int .i64 (endOut l.length 0 err)) ∧ w = w' := by
  obtain ⟨h0, h1, f0, f1⟩ := h.facts
  have hl := str_list l
  clear h
  by_cases he : err = 0
  · have hd : (err == 0) = true := by simpa using he
    by_cases hlt : l = []
    · have HO := Lib.hid (show endOut l.length 0 err = err from by unfold endOut; rw [if_neg (by simpa using he), if_neg (by rw [hlt]; simp), he])
      subst hlt
      have HO := Lib.hid (show endOut 0 0 err = err from HO.out)
      clear he
      go_enter Try.func32, Try.ntmps32
      go_wp2_with fail
      go_ret
      rw [HO.out]
      exact ⟨rfl, rfl⟩
    · have HO := Lib.hid (show endOut l.length 0 err = 3 from by unfold endOut; rw [if_neg (by simpa using he), if_pos (List.length_pos_iff.2 hlt)])
      have hb : (l == []) = false := by simpa using hlt
      have hb2 : ((str l).toList == []) = false := by rw [hl]; exact hb
      clear he
      go_enter Try.func32, Try.ntmps32
      go_wp2_with fail
      go_ret
      rw [HO.out]
      exact ⟨rfl, rfl⟩
  · have hd : (err == 0) = false := by simpa using he
    have HO := Lib.hid (show endOut l.length 0 err = err from by unfold endOut; rw [if_pos he])
    clear he
    go_enter Try.func32, Try.ntmps32
    go_wp2_with fail
    go_ret
    rw [HO.out]
    exact ⟨rfl, rfl⟩
end Go.Proofs.Ytgnkkbgphghioaa
