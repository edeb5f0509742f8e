/- octet's Reader: Fail, End; and of no reader. -/
import Derived.Test.YticdpfjajkfheaaDoorOctE
import Derived.Handy
namespace Go.Proofs.YticdpfjajkfheaaDoor
set_option linter.unusedVariables false
open Go.RowKit OctM

/-- The error once another one is noted. -/
def failOut (err e : Int) : Int := if err = 0 then e else err
theorem rd_fail (base g : Nat) (l : List UInt8) (at_ : Nat) (err e0 : Int) (w : World) (h : Rd w base g l at_ err) :
    Calls Tryd.prog 51 #[.pointer (some ⟨g, 0, none⟩), .int .i64 e0] w fun e w' => e = .returned (.tuple #[]) ∧ Rd w' base g l at_ (failOut err e0) ∧ w.grownBy w' (some g) := by
  have HRD := Lib.hid h
  have HRY := Lib.hid (rd_ready base g l at_ err w h)
  obtain ⟨A, c, hlc, hcm, h0, h1, h2, f1, f2, hs⟩ := h.facts
  clear h hs hlc hcm
  by_cases he : err = 0
  · have hd : (err == 0) = true := by simpa using he
    have HO := Lib.hid (show failOut err e0 = e0 from if_pos he)
    clear he
    go_enter Tryd.func51, Tryd.ntmps51
    go_wp2_with fail
    refine HRY.out.mono ?_
    rintro e wx ⟨rfl, rfl⟩
    rw [hd]
    go_wp2_with fail
    go_returns
    rw [HO.out]
    exact ⟨rfl, (HRD.out.put_err e0).1, (HRD.out.put_err e0).2⟩
  · have hd : (err == 0) = false := by simpa using he
    have HO := Lib.hid (show failOut err e0 = err from if_neg he)
    clear he
    go_enter Tryd.func51, Tryd.ntmps51
    go_wp2_with fail
    refine HRY.out.mono ?_
    rintro e wx ⟨rfl, rfl⟩
    rw [hd]
    go_wp2_with fail
    go_returns
    rw [HO.out]
    exact ⟨rfl, HRD.out, World.grownBy.refl w _⟩

/-- The first error, or that bytes are left. -/
def endOut (n at_ : Nat) (err : Int) : Int := if err ≠ 0 then err else if at_ < n then 3 else 0
theorem rd_end (base g : Nat) (l : List UInt8) (at_ : Nat) (err : Int) (w : World) (h : Rd w base g l at_ err) (ha : at_ ≤ l.length) (hm : l.length ≤ 2097152) :
    Calls Tryd.prog 32 #[.pointer (some ⟨g, 0, none⟩)] w fun e w' => e = .returned (.int .i64 (endOut l.length at_ err)) ∧ (∃ k, w' = w.drewN k) := by
  have HE := Lib.hid (rd_err base g l at_ err w h)
  have HL := Lib.hid (rd_left base g l at_ err w h ha hm)
  clear h
  by_cases he : err = 0
  · have hd : (err != 0) = false := by simpa using he
    by_cases hlt : at_ < l.length
    · have HO := Lib.hid (show endOut l.length at_ err = 3 from by unfold endOut; rw [if_neg (by simpa using he), if_pos hlt])
      have d2 : decide (at_ < l.length) = true := by simpa using hlt
      clear he hlt
      go_enter Tryd.func32, Tryd.ntmps32
      go_wp2_with fail
      refine HE.out.mono ?_
      rintro e wx ⟨rfl, rfl⟩
      go_wp2_with fail
      refine HL.out.mono ?_
      rintro e wx ⟨rfl, k, rfl⟩
      go_wp2_with fail
      go_ret
      rw [HO.out]
      exact ⟨rfl, k, rfl⟩
    · have HO := Lib.hid (show endOut l.length at_ err = 0 from by unfold endOut; rw [if_neg (by simpa using he), if_neg hlt])
      have d2 : decide (at_ < l.length) = false := by simpa using hlt
      clear he hlt
      go_enter Tryd.func32, Tryd.ntmps32
      go_wp2_with fail
      refine HE.out.mono ?_
      rintro e wx ⟨rfl, rfl⟩
      go_wp2_with fail
      refine HL.out.mono ?_
      rintro e wx ⟨rfl, k, rfl⟩
      go_wp2_with fail
      go_ret
      rw [HO.out]
      exact ⟨rfl, k, rfl⟩
  · have hd : (err != 0) = true := by simpa using he
    have HO := Lib.hid (show endOut l.length at_ err = err from by unfold endOut; rw [if_pos he])
    clear he
    go_enter Tryd.func32, Tryd.ntmps32
    go_wp2_with fail
    refine HE.out.mono ?_
    rintro e wx ⟨rfl, rfl⟩
    go_wp2_with fail
    go_ret
    rw [HO.out]
    exact ⟨rfl, 0, rfl⟩
end Go.Proofs.YticdpfjajkfheaaDoor
