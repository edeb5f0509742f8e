/- The document's reader: Str. -/
import Derived.Test.YtgnkkbgphghioaaOctS
namespace Go.Proofs.Ytgnkkbgphghioaa
set_option linter.unusedVariables false
open Go.RowKit OctM

theorem str_mid (l : List UInt8) (a b : Nat) : (str l).extract a (a + b) = str ((l.drop a).take b) := by
  apply ByteArray.ext
  apply Array.ext'
  simp [str, ByteArray.data_extract]
/-- What the document's Str gives. -/
def rstrOut (l : List UInt8) (err most : Int) : List UInt8 × List UInt8 × Int :=
  if err ≠ 0 then ([], l, err)
  else if (nextOut l most).2.2 ≠ 0 then ([], l, ((nextOut l most).2.2 : Nat))
  else if l.length < (nextOut l most).2.1 + (nextOut l most).1 then ([], l, 2)
  else ((l.drop (nextOut l most).2.1).take (nextOut l most).1, l.drop ((nextOut l most).2.1 + (nextOut l most).1), 0)
set_option maxHeartbeats 800000 in
theorem rr_str (base g : Nat) (l : List UInt8) (err most : Int) (w : World) (h : Rr w base g l err) (hm : l.length ≤ 2097152) :
    Calls Try.prog 24 #[.pointer (some ⟨g, 0, none⟩), .int .i64 most] w fun e w' =>
      e = .returned (.string (str (rstrOut l err most).1)) ∧ Rr w' base g (rstrOut l err most).2.1 (rstrOut l err most).2.2 ∧ w.grownBy w' (some g) := by
  have HRD := Lib.hid h
  obtain ⟨h0, h1, f0, f1⟩ := h.facts
  have hsz := str_size l
  clear h
  by_cases he : err = 0
  · have hd : (err != 0) = false := by simpa using he
    have HE := Lib.hid he
    have HNX := Lib.hid (fun wx : World => ref_next l most wx hm)
    have hns := nextOut_size l most
    have HFO := Lib.hid (show rstrOut l err most = if (nextOut l most).2.2 ≠ 0 then ([], l, (((nextOut l most).2.2 : Nat) : Int))
      else if l.length < (nextOut l most).2.1 + (nextOut l most).1 then ([], l, 2) else ((l.drop (nextOut l most).2.1).take (nextOut l most).1, l.drop ((nextOut l most).2.1 + (nextOut l most).1), 0) from by unfold rstrOut; rw [if_neg (by simpa using he)])
    obtain ⟨o, ho⟩ : ∃ o, o = nextOut l most := ⟨_, rfl⟩
    rw [← ho] at HNX HFO hns
    obtain ⟨v, n, er⟩ := o
    simp only at HNX HFO hns
    clear he ho
    by_cases h3 : er = 0
    · have d3 : ((er : Int) == 0) = true := by simp; omega
      have d3n : ((er : Int) != 0) = false := by simp; omega
      by_cases h4 : l.length < n + v
      · have HO := Lib.hid (show rstrOut l err most = ([], l, 2) from by rw [HFO.out, if_neg (by simpa using h3), if_pos h4])
        have d4 : decide ((l.length : Int) - (n : Int) < (v : Int)) = true := by simp; omega
        clear h3 h4
        go_enter Try.func24, Try.ntmps24
        go_wp2_with fail
        refine (HNX.out _).mono ?_
        rintro e wx ⟨rfl, rfl⟩
        go_wp2_with fail
        go_ret
        rw [HO.out]
        exact ⟨rfl, (HRD.out.put_err 2).1, (HRD.out.put_err 2).2⟩
      · have HO := Lib.hid (show rstrOut l err most = ((l.drop n).take v, l.drop (n + v), 0) from by rw [HFO.out, if_neg (by simpa using h3), if_neg h4])
        have d4 : decide ((l.length : Int) - (n : Int) < (v : Int)) = false := by simp; omega
        have hnv : n + v ≤ l.length := by omega
        have hb1 : (n : Int) + (v : Int) ≤ (l.length : Int) := by omega
        have hb2 : (n : Int) ≤ (n : Int) + (v : Int) := by omega
        have HC := Lib.hid (str_cut l (n + v))
        have HM := Lib.hid (str_mid l n v)
        clear h3 h4
        go_enter Try.func24, Try.ntmps24
        go_wp2_with fail
        refine (HNX.out _).mono ?_
        rintro e wx ⟨rfl, rfl⟩
        go_wp2_with fail
        go_ret
        rw [HO.out]
        have e1 : (str l).extract ((n : Int) + (v : Int)).toNat l.length = str (l.drop (n + v)) := by rw [← HC.out, hsz]; congr 1
        have e2 : (str l).extract n ((n : Int) + (v : Int)).toNat = str ((l.drop n).take v) := by rw [← HM.out]; congr 1
        have hr := HRD.out
        rw [HE.out] at hr
        first
          | (rw [e1, e2]; exact ⟨rfl, (hr.put_str (l.drop (n + v))).1, (hr.put_str (l.drop (n + v))).2⟩)
          | (rw [HM.out, show (str l).extract (n + v) l.length = str (l.drop (n + v)) from by rw [← HC.out, hsz]]; exact ⟨rfl, (hr.put_str (l.drop (n + v))).1, (hr.put_str (l.drop (n + v))).2⟩)
    · have HO := Lib.hid (show rstrOut l err most = ([], l, (er : Int)) from by rw [HFO.out, if_pos h3])
      have d3 : ((er : Int) == 0) = false := by simp; omega
      have d3n : ((er : Int) != 0) = true := by simp; omega
      clear h3
      go_enter Try.func24, Try.ntmps24
      go_wp2_with fail
      refine (HNX.out _).mono ?_
      rintro e wx ⟨rfl, rfl⟩
      go_wp2_with fail
      go_ret
      rw [HO.out]
      exact ⟨rfl, (HRD.out.put_err er).1, (HRD.out.put_err er).2⟩
  · have hd : (err != 0) = true := by simpa using he
    have HO := Lib.hid (show rstrOut l err most = ([], l, err) from by unfold rstrOut; rw [if_pos he])
    clear he
    go_enter Try.func24, Try.ntmps24
    go_wp2_with fail
    go_ret
    rw [HO.out]
    exact ⟨rfl, HRD.out, World.grownBy.refl w _⟩
end Go.Proofs.Ytgnkkbgphghioaa
