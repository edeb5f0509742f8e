/- octet's Reader: a text. -/
import Derived.Test.YtgnkkbgphghioaaOctD
namespace Go.Proofs.Ytgnkkbgphghioaa
set_option linter.unusedVariables false
open Go.RowKit OctM

/-- What taking a text gives. -/
def strOut (l : List UInt8) (at_ : Nat) (err most : Int) : List UInt8 × Nat × Int :=
  if err ≠ 0 then ([], at_, err)
  else if (numOut l at_ 0 most).2.2 ≠ 0 then ([], (numOut l at_ 0 most).2)
  else if l.length < (numOut l at_ 0 most).2.1 + (numOut l at_ 0 most).1 then ([], at_, 2)
  else ((l.drop (numOut l at_ 0 most).2.1).take (numOut l at_ 0 most).1, (numOut l at_ 0 most).2.1 + (numOut l at_ 0 most).1, 0)

set_option maxHeartbeats 1600000 in
theorem rd_str (base g : Nat) (l : List UInt8) (at_ : Nat) (err most : Int) (w : World) (h : Rd w base g l at_ err) (ha : at_ ≤ l.length) (hm : l.length ≤ 2097152) :
    Calls Try.prog 23 #[.pointer (some ⟨g, 0, none⟩), .int .i64 most] w fun e w' =>
      e = .returned (.string (str (strOut l at_ err most).1)) ∧ Rd w' base g l (strOut l at_ err most).2.1 (strOut l at_ err most).2.2 ∧ w.grownBy w' (some g) := by
  obtain ⟨i0, hi, hz0, hz1, hz2⟩ := oct_parts
  have HRD := Lib.hid h
  have HRY := Lib.hid (rd_ready base g l at_ err w h)
  by_cases he : err = 0
  · subst he
    have HNUM := Lib.hid (rd_num base g l at_ 0 most w h ha hm)
    have hna := numOut_at l at_ 0 most ha
    obtain ⟨A, c, hlc, hcm, h0, h1, h2, f1, f2, hs⟩ := h.facts
    clear h hs hlc hcm
    obtain ⟨o, ho⟩ : ∃ o, o = numOut l at_ 0 most := ⟨_, rfl⟩
    have HFO := Lib.hid (show strOut l at_ 0 most = if o.2.2 ≠ 0 then ([], o.2) else if l.length < o.2.1 + o.1 then ([], at_, 2) else ((l.drop o.2.1).take o.1, o.2.1 + o.1, 0) from by unfold strOut; rw [if_neg (by simp), ← ho])
    rw [← ho] at HNUM hna
    clear ho
    obtain ⟨v, a1, e1⟩ := o
    simp only at HFO HNUM hna
    by_cases h3 : e1 = 0
    · subst h3
      by_cases h4 : l.length < a1 + v
      · have HO := Lib.hid (show strOut l at_ 0 most = ([], at_, 2) from by rw [HFO.out, if_neg (by simp), if_pos h4])
        have d4 : decide ((l.length : Int) - (a1 : Int) < (v : Int)) = true := by simp; omega
        clear h4
        go_enter Try.func23, Try.ntmps23
        go_wp2_with fail
        refine HRY.out.mono ?_
        rintro e wx ⟨rfl, rfl⟩
        rw [show ((0 : Int) == 0) = true from rfl]
        go_wp2_with fail
        refine HNUM.out.mono ?_
        rintro e w1 ⟨rfl, rd1, g1⟩
        clear h0 h1 h2 f1 f2
        obtain ⟨A, c, hlc, hcm, h0, h1, h2, f1, f2, hs⟩ := rd1.facts
        have HR1 := Lib.hid rd1
        clear rd1 hs hlc hcm
        go_wp2_with fail
        refine (rd_left base g l a1 0 w1 HR1.out hna hm).mono ?_
        rintro e w2 ⟨rfl, nk, rfl⟩
        go_wp2_with fail
        go_ret
        rw [HO.out]
        exact ⟨rfl, (((HR1.out.drewN nk).put_at at_).1.put_err 2).1, ((g1.trans (drewN_grown _ _ _)).trans ((HR1.out.drewN nk).put_at at_).2).trans (((HR1.out.drewN nk).put_at at_).1.put_err 2).2⟩
      · have HO := Lib.hid (show strOut l at_ 0 most = ((l.drop a1).take v, a1 + v, 0) from by rw [HFO.out, if_neg (by simp), if_neg h4])
        have d4 : decide ((l.length : Int) - (a1 : Int) < (v : Int)) = false := by simp; omega
        have hav : a1 + v ≤ l.length := by omega
        clear h4
        go_enter Try.func23, Try.ntmps23
        go_wp2_with fail
        refine HRY.out.mono ?_
        rintro e wx ⟨rfl, rfl⟩
        rw [show ((0 : Int) == 0) = true from rfl]
        go_wp2_with fail
        refine HNUM.out.mono ?_
        rintro e w1 ⟨rfl, rd1, g1⟩
        clear h0 h1 h2 f1 f2
        obtain ⟨A, c, hlc, hcm, h0, h1, h2, f1, f2, hs⟩ := rd1.facts
        have HR1 := Lib.hid rd1
        clear rd1
        obtain ⟨A2, hcut, hs2⟩ := cut2_fact (P := Try.prog) 22 5 i0 Try.underlying22 hi hz1 hs l.length a1 v c (a1 : Int) ((a1 : Int) + (v : Int)) .i64 .i64 (bvs_length l) hav rfl (by simp) hlc
        rw [show ((bvs l).drop a1).take v = bvs ((l.drop a1).take v) from by simp [bvs]] at hs2
        have HL := Lib.hid (show ((l.drop a1).take v).length = v from by rw [List.length_take, List.length_drop]; omega)
        obtain ⟨cc, hcc⟩ : ∃ cc, cc = c - a1 := ⟨_, rfl⟩
        rw [← hcc] at hcut
        have hstr := fun k : Nat => run_str (P := Try.prog) (w1.drewN k) g 22 5 9 Try.underlying22 Try.underlying5 Try.underlying9 A2 v cc ((l.drop a1).take v) HL.out (hs2.drewN k)
        obtain ⟨t, ht⟩ : ∃ t, t = str ((l.drop a1).take v) := ⟨_, rfl⟩
        rw [← ht] at hstr
        have HT := Lib.hid ht
        clear hcc hs hs2 hlc hcm ht
        go_wp2_with fail
        refine (rd_left base g l a1 0 w1 HR1.out hna hm).mono ?_
        rintro e w2 ⟨rfl, nk, rfl⟩
        go_wp2_with fail
        go_quiet (fail)
        go_wp2_with fail
        go_ret
        rw [HO.out, ← HT.out]
        exact ⟨rfl, ((HR1.out.drewN _).put_at (a1 + v)).1, (g1.trans (drewN_grown _ _ _)).trans ((HR1.out.drewN _).put_at (a1 + v)).2⟩
    · have HO := Lib.hid (show strOut l at_ 0 most = ([], a1, e1) from by rw [HFO.out, if_pos h3])
      have d4 : (e1 == 0) = false := by simpa using h3
      have d5 : (e1 != 0) = true := by simpa using h3
      clear h3
      go_enter Try.func23, Try.ntmps23
      go_wp2_with fail
      refine HRY.out.mono ?_
      rintro e wx ⟨rfl, rfl⟩
      rw [show ((0 : Int) == 0) = true from rfl]
      go_wp2_with fail
      refine HNUM.out.mono ?_
      rintro e w1 ⟨rfl, rd1, g1⟩
      clear h0 h1 h2 f1 f2
      obtain ⟨A, c, hlc, hcm, h0, h1, h2, f1, f2, hs⟩ := rd1.facts
      have HR1 := Lib.hid rd1
      clear rd1 hs hlc hcm
      go_wp2_with fail
      go_ret
      rw [HO.out]
      exact ⟨rfl, HR1.out, g1⟩
  · have hd : (err == 0) = false := by simpa using he
    have HO := Lib.hid (show strOut l at_ err most = ([], at_, err) from by unfold strOut; rw [if_pos he])
    clear he h
    go_enter Try.func23, Try.ntmps23
    go_wp2_with fail
    refine HRY.out.mono ?_
    rintro e wx ⟨rfl, rfl⟩
    rw [hd]
    go_wp2
    go_ret
    rw [HO.out]
    exact ⟨rfl, HRD.out, World.grownBy.refl w _⟩
end Go.Proofs.Ytgnkkbgphghioaa
