/- The document's reader: Flag, End. -/
import Derived.Test.YtgnkkbgphghioaaOctR
namespace Go.Proofs.Ytgnkkbgphghioaa
set_option linter.unusedVariables false
open Go.RowKit OctM

/-- What the document's Flag gives. -/
def rflagOut (l : List UInt8) (err : Int) : Bool × List UInt8 × Int :=
  if err ≠ 0 then (false, l, err)
  else if (nextOut l 1099511627776).2.2 ≠ 0 then (false, l, ((nextOut l 1099511627776).2.2 : Nat))
  else if 1 < (nextOut l 1099511627776).1 then (false, l, 3)
  else (decide ((nextOut l 1099511627776).1 = 1), l.drop (nextOut l 1099511627776).2.1, 0)
set_option maxHeartbeats 800000 in
theorem rr_flag (base g : Nat) (l : List UInt8) (err : Int) (w : World) (h : Rr w base g l err) (hm : l.length ≤ 2097152) :
    Calls Try.prog 26 #[.pointer (some ⟨g, 0, none⟩)] w fun e w' =>
      e = .returned (.bool (rflagOut l err).1) ∧ Rr w' base g (rflagOut l err).2.1 (rflagOut l err).2.2 ∧ w.grownBy w' (some g) := by
  have HRD := Lib.hid h
  obtain ⟨h0, h1, f0, f1⟩ := h.facts
  have hsz := str_size l
  clear h
  by_cases he : err = 0
  · have hd : (err != 0) = false := by simpa using he
    have HE := Lib.hid he
    have HNX := Lib.hid (fun wx : World => ref_next l 1099511627776 wx hm)
    have hns := nextOut_size l 1099511627776
    have HFO := Lib.hid (show rflagOut l err = if (nextOut l 1099511627776).2.2 ≠ 0 then (false, l, (((nextOut l 1099511627776).2.2 : Nat) : Int))
      else if 1 < (nextOut l 1099511627776).1 then (false, l, 3) else (decide ((nextOut l 1099511627776).1 = 1), l.drop (nextOut l 1099511627776).2.1, 0) from by unfold rflagOut; rw [if_neg (by simpa using he)])
    obtain ⟨o, ho⟩ : ∃ o, o = nextOut l 1099511627776 := ⟨_, rfl⟩
    rw [← ho] at HNX HFO hns
    obtain ⟨v, n, er⟩ := o
    simp only at HNX HFO hns
    have HC := Lib.hid (str_cut l n)
    clear he ho
    by_cases h3 : er = 0
    · have d3 : ((er : Int) == 0) = true := by simp; omega
      have d3n : ((er : Int) != 0) = false := by simp; omega
      by_cases h4 : 1 < v
      · have HO := Lib.hid (show rflagOut l err = (false, l, 3) from by rw [HFO.out, if_neg (by simpa using h3), if_pos h4])
        have d4 : decide ((1 : Int) < (v : Int)) = true := by simp; omega
        have d4' : decide (1 < v) = true := by simpa using h4
        clear h3 h4
        go_enter Try.func26, Try.ntmps26
        go_wp2_with fail
        refine (HNX.out _).mono ?_
        rintro e wx ⟨rfl, rfl⟩
        go_wp2_with fail
        go_ret
        rw [HO.out]
        exact ⟨rfl, (HRD.out.put_err 3).1, (HRD.out.put_err 3).2⟩
      · have HO := Lib.hid (show rflagOut l err = (decide (v = 1), l.drop n, 0) from by rw [HFO.out, if_neg (by simpa using h3), if_neg h4])
        have d4 : decide ((1 : Int) < (v : Int)) = false := by simp; omega
        have d4' : decide (1 < v) = false := by simpa using h4
        have hveq : ((v : Int) == 1) = decide (v = 1) := by
          rw [Bool.eq_iff_iff]; simp; omega
        clear h3 h4
        go_enter Try.func26, Try.ntmps26
        go_wp2_with fail
        refine (HNX.out _).mono ?_
        rintro e wx ⟨rfl, rfl⟩
        go_wp2_with fail
        go_ret
        rw [HO.out, show (str l).extract n l.length = str (l.drop n) from by rw [← HC.out, hsz]]
        have hr := HRD.out
        rw [HE.out] at hr
        exact ⟨by first | rfl | simp [hveq], (hr.put_str (l.drop n)).1, (hr.put_str (l.drop n)).2⟩
    · have HO := Lib.hid (show rflagOut l err = (false, l, (er : Int)) from by rw [HFO.out, if_pos h3])
      have d3 : ((er : Int) == 0) = false := by simp; omega
      have d3n : ((er : Int) != 0) = true := by simp; omega
      clear h3
      go_enter Try.func26, Try.ntmps26
      go_wp2_with fail
      refine (HNX.out _).mono ?_
      rintro e wx ⟨rfl, rfl⟩
      go_wp2_with fail
      go_ret
      rw [HO.out]
      exact ⟨rfl, (HRD.out.put_err er).1, (HRD.out.put_err er).2⟩
  · have hd : (err != 0) = true := by simpa using he
    have HO := Lib.hid (show rflagOut l err = (false, l, err) from by unfold rflagOut; rw [if_pos he])
    clear he
    go_enter Try.func26, Try.ntmps26
    go_wp2_with fail
    go_ret
    rw [HO.out]
    exact ⟨rfl, HRD.out, World.grownBy.refl w _⟩
end Go.Proofs.Ytgnkkbgphghioaa
