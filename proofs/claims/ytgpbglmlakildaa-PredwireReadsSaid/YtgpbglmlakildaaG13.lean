/- octet's Reader: what each method returns where there is no reader. -/
import Derived.Test.YtgpbglmlakildaaG12
import Derived.Test.YtgpbglmlakildaaG8
import Derived.Test.YtgpbglmlakildaaG3
import Derived.Test.YtgpbglmlakildaaG1
import Derived.Test.YtgpbglmlakildaaG10
namespace Go.Proofs.Ytgpbglmlakildaa
set_option linter.unusedVariables false
open Go.RowKit OctM

theorem nil_ready (w : World) : Calls Try.prog 95 #[.pointer none] w fun e w' => e = .returned (.bool false) ∧ w = w' := by
  go_enter Try.func95, Try.ntmps95
  go_wp2_with fail
  go_returns
  exact ⟨rfl, rfl⟩
theorem nil_num (w : World) (most : Int) : Calls Try.prog 69 #[.pointer none, .int .i64 most] w fun e w' => e = .returned (.int .i64 0) ∧ w = w' := by
  go_enter Try.func69, Try.ntmps69
  go_wp2_with fail
  refine (nil_ready _).mono ?_
  rintro e wx ⟨rfl, rfl⟩
  go_wp2_with fail
  go_returns
  exact ⟨rfl, rfl⟩
theorem nil_str (w : World) (most : Int) : Calls Try.prog 115 #[.pointer none, .int .i64 most] w fun e w' => e = .returned (.string (str [])) ∧ w = w' := by
  go_enter Try.func115, Try.ntmps115
  go_wp2_with fail
  refine (nil_ready _).mono ?_
  rintro e wx ⟨rfl, rfl⟩
  go_wp2_with fail
  go_returns
  exact ⟨rfl, rfl⟩
theorem nil_left (w : World) : Calls Try.prog 39 #[.pointer none] w fun e w' => e = .returned (.int .i64 0) ∧ w = w' := by
  go_enter Try.func39, Try.ntmps39
  go_wp2_with fail
  go_returns
  exact ⟨rfl, rfl⟩
theorem nil_err (w : World) : Calls Try.prog 38 #[.pointer none] w fun e w' => e = .returned (.int .i64 1) ∧ w = w' := by
  go_enter Try.func38, Try.ntmps38
  go_wp2_with fail
  go_returns
  exact ⟨rfl, rfl⟩
theorem nil_fail (w : World) (most : Int) : Calls Try.prog 70 #[.pointer none, .int .i64 most] w fun e w' => e = .returned (.tuple #[]) ∧ w = w' := by
  go_enter Try.func70, Try.ntmps70
  go_wp2_with fail
  refine (nil_ready _).mono ?_
  rintro e wx ⟨rfl, rfl⟩
  go_wp2_with fail
  go_returns
  exact ⟨rfl, rfl⟩
end Go.Proofs.Ytgpbglmlakildaa

/- The document's reader: what each method returns, and what it leaves. -/
namespace Go.Proofs.Ytgpbglmlakildaa
set_option linter.unusedVariables false
open Go.RowKit OctM

/-- The document's reader at block g: what is left, and the error. -/
def Rr (w : World) (base g : Nat) (l : List UInt8) (err : Int) : Prop :=
  Own w base 52 (.slice (some ⟨g, 0, none⟩) 2 2) [.string (str l), .int .i64 err]
theorem Rr.facts {w : World} {base g : Nat} {l : List UInt8} {err : Int} (h : Rr w base g l err) :
    w.cell? ⟨g, 0, none⟩ = some (.string (str l)) ∧ w.cell? ⟨g, 1, none⟩ = some (.int .i64 err) ∧ w.frozen? ⟨g, 0, none⟩ = false ∧ w.frozen? ⟨g, 1, none⟩ = false := by
  have h0 := Own.cell h 0 (by simp)
  have h1 := Own.cell h 1 (by simp)
  simp only [List.getElem_cons_succ, List.getElem_cons_zero] at h0 h1
  exact ⟨h0, h1, Own.frozen h 0, Own.frozen h 1⟩
theorem Rr.drewN {w : World} {base g : Nat} {l : List UInt8} {err : Int} (h : Rr w base g l err) (k : Nat) : Rr (w.drewN k) base g l err := Own.drewN h k
theorem Rr.put_err {w : World} {base g : Nat} {l : List UInt8} {err : Int} (h : Rr w base g l err) (e : Int) :
    Rr (w.setCell ⟨g, 1, none⟩ (.int .i64 e)) base g l e ∧ w.grownBy (w.setCell ⟨g, 1, none⟩ (.int .i64 e)) (some g) :=
  World.ownsRow.stored (h : w.ownsRow _ _ _ _ _ _) 1 (.int .i64 e)
theorem Rr.put_str {w : World} {base g : Nat} {l : List UInt8} {err : Int} (h : Rr w base g l err) (l' : List UInt8) :
    Rr (w.setCell ⟨g, 0, none⟩ (.string (str l'))) base g l' err ∧ w.grownBy (w.setCell ⟨g, 0, none⟩ (.string (str l'))) (some g) :=
  World.ownsRow.stored (h : w.ownsRow _ _ _ _ _ _) 0 (.string (str l'))
theorem rr_fail (base g : Nat) (l : List UInt8) (err e0 : Int) (w : World) (h : Rr w base g l err) :
    Calls Try.prog 73 #[.pointer (some ⟨g, 0, none⟩), .int .i64 e0] w fun e w' => e = .returned (.tuple #[]) ∧ Rr w' base g l (failOut err e0) ∧ w.grownBy w' (some g) := by
  have HRD := Lib.hid h
  obtain ⟨h0, h1, f0, f1⟩ := h.facts
  clear h
  by_cases he : err = 0
  · have hd : (err == 0) = true := by simpa using he
    have HO := Lib.hid (show failOut err e0 = e0 from if_pos he)
    clear he
    go_enter Try.func73, Try.ntmps73
    go_wp2_with fail
    go_returns
    rw [HO.out]
    exact ⟨rfl, (HRD.out.put_err e0).1, (HRD.out.put_err e0).2⟩
  · have hd : (err == 0) = false := by simpa using he
    have HO := Lib.hid (show failOut err e0 = err from if_neg he)
    clear he
    go_enter Try.func73, Try.ntmps73
    go_wp2_with fail
    go_returns
    rw [HO.out]
    exact ⟨rfl, HRD.out, World.grownBy.refl w _⟩

theorem str_cut (l : List UInt8) (k : Nat) : (str l).extract k (str l).size = str (l.drop k) := by
  apply ByteArray.ext
  have hsz : (str l).size = l.length := str_size l
  rw [hsz]
  apply Array.ext'
  simp [str, ByteArray.data_extract, List.take_of_length_le]
theorem nextOut_size (l : List UInt8) (most : Int) : (nextOut l most).2.1 ≤ l.length := by
  have := scan_size l 0 0
  unfold nextOut
  split
  · simp
  · split
    · simp
    · omega

/-- What the document's Num gives: the number, what is left, the error. -/
def rnumOut (l : List UInt8) (err most : Int) : Nat × List UInt8 × Int :=
  if err ≠ 0 then (0, l, err) else ((nextOut l most).1, l.drop (nextOut l most).2.1, ((nextOut l most).2.2 : Nat))
set_option maxHeartbeats 800000 in
theorem rr_num (base g : Nat) (l : List UInt8) (err most : Int) (w : World) (h : Rr w base g l err) (hm : l.length ≤ 2097152) :
    Calls Try.prog 72 #[.pointer (some ⟨g, 0, none⟩), .int .i64 most] w fun e w' =>
      e = .returned (.int .i64 ((rnumOut l err most).1 : Nat)) ∧ Rr w' base g (rnumOut l err most).2.1 (rnumOut l err most).2.2 ∧ w.grownBy w' (some g) := by
  have HRD := Lib.hid h
  obtain ⟨h0, h1, f0, f1⟩ := h.facts
  have hsz := str_size l
  clear h
  by_cases he : err = 0
  · have hd : (err != 0) = false := by simpa using he
    have HNX := Lib.hid (fun wx : World => ref_next l most wx hm)
    have hns := nextOut_size l most
    have HO := Lib.hid (show rnumOut l err most = ((nextOut l most).1, l.drop (nextOut l most).2.1, (((nextOut l most).2.2 : Nat) : Int)) from by unfold rnumOut; rw [if_neg (by simpa using he)])
    obtain ⟨o, ho⟩ : ∃ o, o = nextOut l most := ⟨_, rfl⟩
    rw [← ho] at HNX HO hns
    obtain ⟨v, n, er⟩ := o
    simp only at HNX HO hns
    have HC := Lib.hid (str_cut l n)
    clear he ho
    go_enter Try.func72, Try.ntmps72
    go_wp2_with fail
    refine (HNX.out _).mono ?_
    rintro e wx ⟨rfl, rfl⟩
    go_wp2_with fail
    go_ret
    rw [HO.out, show (str l).extract n l.length = str (l.drop n) from by rw [← HC.out, hsz]]
    exact ⟨rfl, ((HRD.out.put_err er).1.put_str (l.drop n)).1, (HRD.out.put_err er).2.trans ((HRD.out.put_err er).1.put_str (l.drop n)).2⟩
  · have hd : (err != 0) = true := by simpa using he
    have HO := Lib.hid (show rnumOut l err most = (0, l, err) from by unfold rnumOut; rw [if_pos he])
    clear he
    go_enter Try.func72, Try.ntmps72
    go_wp2_with fail
    go_ret
    rw [HO.out]
    exact ⟨rfl, HRD.out, World.grownBy.refl w _⟩
end Go.Proofs.Ytgpbglmlakildaa

/- The document's reader: Flag, End. -/
namespace Go.Proofs.Ytgpbglmlakildaa
set_option linter.unusedVariables false
open Go.RowKit OctM

/-- What the document's Flag gives. -/
def rflagOut (l : List UInt8) (err : Int) : Bool × List UInt8 × Int :=
  if err ≠ 0 then (false, l, err)
  else if (nextOut l 1099511627776).2.2 ≠ 0 then (false, l, ((nextOut l 1099511627776).2.2 : Nat))
  else if 1 < (nextOut l 1099511627776).1 then (false, l, 3)
  else (decide ((nextOut l 1099511627776).1 = 1), l.drop (nextOut l 1099511627776).2.1, 0)
end Go.Proofs.Ytgpbglmlakildaa

/- The document's reader: Str. -/
namespace Go.Proofs.Ytgpbglmlakildaa
set_option linter.unusedVariables false
open Go.RowKit OctM

theorem str_mid (l : List UInt8) (a b : Nat) : (str l).extract a (a + b) = str ((l.drop a).take b) := by
  apply ByteArray.ext
  apply Array.ext'
  simp [str, ByteArray.data_extract]
/-- What the document's Str gives. -/
def rstrOut (l : List UInt8) (err most : Int) : List UInt8 × List UInt8 × Int :=
  if err ≠ 0 then ([], l, err)
  else if (nextOut l most).2.2 ≠ 0 then ([], l, ((nextOut l most).2.2 : Nat))
  else if l.length < (nextOut l most).2.1 + (nextOut l most).1 then ([], l, 2)
  else ((l.drop (nextOut l most).2.1).take (nextOut l most).1, l.drop ((nextOut l most).2.1 + (nextOut l most).1), 0)
set_option maxHeartbeats 800000 in
theorem rr_str (base g : Nat) (l : List UInt8) (err most : Int) (w : World) (h : Rr w base g l err) (hm : l.length ≤ 2097152) :
    Calls Try.prog 116 #[.pointer (some ⟨g, 0, none⟩), .int .i64 most] w fun e w' =>
      e = .returned (.string (str (rstrOut l err most).1)) ∧ Rr w' base g (rstrOut l err most).2.1 (rstrOut l err most).2.2 ∧ w.grownBy w' (some g) := by
  have HRD := Lib.hid h
  obtain ⟨h0, h1, f0, f1⟩ := h.facts
  have hsz := str_size l
  clear h
  by_cases he : err = 0
  · have hd : (err != 0) = false := by simpa using he
    have HE := Lib.hid he
    have HNX := Lib.hid (fun wx : World => ref_next l most wx hm)
    have hns := nextOut_size l most
    have HFO := Lib.hid (show rstrOut l err most = if (nextOut l most).2.2 ≠ 0 then ([], l, (((nextOut l most).2.2 : Nat) : Int))
      else if l.length < (nextOut l most).2.1 + (nextOut l most).1 then ([], l, 2) else ((l.drop (nextOut l most).2.1).take (nextOut l most).1, l.drop ((nextOut l most).2.1 + (nextOut l most).1), 0) from by unfold rstrOut; rw [if_neg (by simpa using he)])
    obtain ⟨o, ho⟩ : ∃ o, o = nextOut l most := ⟨_, rfl⟩
    rw [← ho] at HNX HFO hns
    obtain ⟨v, n, er⟩ := o
    simp only at HNX HFO hns
    clear he ho
    by_cases h3 : er = 0
    · have d3 : ((er : Int) == 0) = true := by simp; omega
      have d3n : ((er : Int) != 0) = false := by simp; omega
      by_cases h4 : l.length < n + v
      · have HO := Lib.hid (show rstrOut l err most = ([], l, 2) from by rw [HFO.out, if_neg (by simpa using h3), if_pos h4])
        have d4 : decide ((l.length : Int) - (n : Int) < (v : Int)) = true := by simp; omega
        clear h3 h4
        go_enter Try.func116, Try.ntmps116
        go_wp2_with fail
        refine (HNX.out _).mono ?_
        rintro e wx ⟨rfl, rfl⟩
        go_wp2_with fail
        go_ret
        rw [HO.out]
        exact ⟨rfl, (HRD.out.put_err 2).1, (HRD.out.put_err 2).2⟩
      · have HO := Lib.hid (show rstrOut l err most = ((l.drop n).take v, l.drop (n + v), 0) from by rw [HFO.out, if_neg (by simpa using h3), if_neg h4])
        have d4 : decide ((l.length : Int) - (n : Int) < (v : Int)) = false := by simp; omega
        have hnv : n + v ≤ l.length := by omega
        have hb1 : (n : Int) + (v : Int) ≤ (l.length : Int) := by omega
        have hb2 : (n : Int) ≤ (n : Int) + (v : Int) := by omega
        have HC := Lib.hid (str_cut l (n + v))
        have HM := Lib.hid (str_mid l n v)
        clear h3 h4
        go_enter Try.func116, Try.ntmps116
        go_wp2_with fail
        refine (HNX.out _).mono ?_
        rintro e wx ⟨rfl, rfl⟩
        go_wp2_with fail
        go_ret
        rw [HO.out]
        have e1 : (str l).extract ((n : Int) + (v : Int)).toNat l.length = str (l.drop (n + v)) := by rw [← HC.out, hsz]; congr 1
        have e2 : (str l).extract n ((n : Int) + (v : Int)).toNat = str ((l.drop n).take v) := by rw [← HM.out]; congr 1
        have hr := HRD.out
        rw [HE.out] at hr
        first
          | (rw [e1, e2]; exact ⟨rfl, (hr.put_str (l.drop (n + v))).1, (hr.put_str (l.drop (n + v))).2⟩)
          | (rw [HM.out, show (str l).extract (n + v) l.length = str (l.drop (n + v)) from by rw [← HC.out, hsz]]; exact ⟨rfl, (hr.put_str (l.drop (n + v))).1, (hr.put_str (l.drop (n + v))).2⟩)
    · have HO := Lib.hid (show rstrOut l err most = ([], l, (er : Int)) from by rw [HFO.out, if_pos h3])
      have d3 : ((er : Int) == 0) = false := by simp; omega
      have d3n : ((er : Int) != 0) = true := by simp; omega
      clear h3
      go_enter Try.func116, Try.ntmps116
      go_wp2_with fail
      refine (HNX.out _).mono ?_
      rintro e wx ⟨rfl, rfl⟩
      go_wp2_with fail
      go_ret
      rw [HO.out]
      exact ⟨rfl, (HRD.out.put_err er).1, (HRD.out.put_err er).2⟩
  · have hd : (err != 0) = true := by simpa using he
    have HO := Lib.hid (show rstrOut l err most = ([], l, err) from by unfold rstrOut; rw [if_pos he])
    clear he
    go_enter Try.func116, Try.ntmps116
    go_wp2_with fail
    go_ret
    rw [HO.out]
    exact ⟨rfl, HRD.out, World.grownBy.refl w _⟩
end Go.Proofs.Ytgpbglmlakildaa

/- The document's reader: End. -/
namespace Go.Proofs.Ytgpbglmlakildaa
set_option linter.unusedVariables false
open Go.RowKit OctM

end Go.Proofs.Ytgpbglmlakildaa

/- The program's reader and the document's answer alike. -/
namespace Go.Proofs.Ytgpbglmlakildaa
set_option linter.unusedVariables false
open Go.RowKit OctM

theorem next_num (l : List UInt8) (at_ : Nat) (most : Int) :
    nextOut (l.drop at_) most = ((numOut l at_ 0 most).1, (numOut l at_ 0 most).2.1 - at_, (numOut l at_ 0 most).2.2.toNat) ∧ at_ ≤ (numOut l at_ 0 most).2.1 ∧ 0 ≤ (numOut l at_ 0 most).2.2 ∧
    ((numOut l at_ 0 most).2.2 ≠ 0 → (numOut l at_ 0 most).1 = 0 ∧ (numOut l at_ 0 most).2.1 = at_) := by
  unfold nextOut numOut
  rw [if_neg (show ¬ ((0 : Int) ≠ 0) by simp)]
  generalize scan (l.drop at_) 0 0 = s
  obtain ⟨v, n, e⟩ := s
  by_cases h1 : e = 0
  · subst h1
    by_cases h2 : 1099511627776 < (v : Int) ∨ most < (v : Int)
    · simp [h2]
    · simp [h2]
  · simp [h1]
theorem same_num (l : List UInt8) (at_ : Nat) (err most : Int) :
    rnumOut (l.drop at_) err most = ((numOut l at_ err most).1, l.drop (numOut l at_ err most).2.1, (numOut l at_ err most).2.2) := by
  by_cases he : err = 0
  · subst he
    obtain ⟨h1, h2, h3, h4⟩ := next_num l at_ most
    unfold rnumOut
    rw [if_neg (by simp), h1]
    generalize numOut l at_ 0 most = o at *
    obtain ⟨v, a, e⟩ := o
    simp only at *
    rw [List.drop_drop, show at_ + (a - at_) = a by omega, Int.toNat_of_nonneg h3]
  · unfold rnumOut numOut
    rw [if_pos he, if_pos he]
theorem same_flag (l : List UInt8) (at_ : Nat) (err : Int) :
    rflagOut (l.drop at_) err = ((flagOut l at_ err).1, l.drop (flagOut l at_ err).2.1, (flagOut l at_ err).2.2) := by
  by_cases he : err = 0
  · subst he
    obtain ⟨h1, h2, h3, h4⟩ := next_num l at_ 1099511627776
    unfold rflagOut flagOut
    simp only [ne_eq, not_true_eq_false, if_false]
    rw [h1]
    generalize numOut l at_ 0 1099511627776 = o at *
    obtain ⟨v, a, e⟩ := o
    simp only at *
    by_cases h5 : e = 0
    · subst h5
      simp only [Int.toNat_zero, not_true_eq_false, if_false]
      by_cases h6 : 1 < v
      · simp [h6]
      · rw [if_neg h6, if_neg h6, List.drop_drop, show at_ + (a - at_) = a by omega]
    · obtain ⟨rfl, rfl⟩ := h4 h5
      rw [if_pos (by omega)]
      simp [Int.toNat_of_nonneg h3]
  · unfold rflagOut flagOut
    rw [if_pos he, if_pos he]
theorem same_str (l : List UInt8) (at_ : Nat) (err most : Int) (ha : at_ ≤ l.length) :
    rstrOut (l.drop at_) err most = ((strOut l at_ err most).1, l.drop (strOut l at_ err most).2.1, (strOut l at_ err most).2.2) := by
  by_cases he : err = 0
  · subst he
    obtain ⟨h1, h2, h3, h4⟩ := next_num l at_ most
    unfold rstrOut strOut
    simp only [ne_eq, not_true_eq_false, if_false]
    rw [h1]
    generalize numOut l at_ 0 most = o at *
    obtain ⟨v, a, e⟩ := o
    simp only at *
    by_cases h5 : e = 0
    · subst h5
      simp only [Int.toNat_zero, not_true_eq_false, if_false]
      rw [List.length_drop]
      by_cases h6 : l.length < a + v
      · rw [if_pos (by omega), if_pos h6]
      · rw [if_neg (by omega), if_neg h6, List.drop_drop, List.drop_drop, show at_ + (a - at_) = a by omega, show at_ + (a - at_ + v) = a + v by omega]
    · obtain ⟨rfl, rfl⟩ := h4 h5
      rw [if_pos (by omega), if_pos h5]
      simp [Int.toNat_of_nonneg h3]
  · unfold rstrOut strOut
    rw [if_pos he, if_pos he]
theorem same_end (l : List UInt8) (at_ : Nat) (err : Int) (ha : at_ ≤ l.length) : endOut (l.drop at_).length 0 err = endOut l.length at_ err := by
  unfold endOut
  rw [List.length_drop]
  by_cases h : at_ < l.length
  · rw [if_pos (show 0 < l.length - at_ by omega), if_pos h]
  · rw [if_neg (show ¬ 0 < l.length - at_ by omega), if_neg h]
end Go.Proofs.Ytgpbglmlakildaa

/- OctetBack: what was put is read, whatever stands behind it: for every input. No condition. -/
namespace Go.Proofs.Ytgpbglmlakildaa
set_option linter.unusedVariables false
open Go.ChangeShapes Go.WideShapes Go.ChangeAt Go.RowKit OctM
open Go.ChangeMaps (open_string shut_string)

theorem num_put (pre rest : List UInt8) (n : Nat) (most : Int) (hn : n ≤ 1099511627776) (hm : (n : Int) ≤ most) :
    numOut (pre ++ (enc n ++ rest)) pre.length 0 most = (n, pre.length + (enc n).length, 0) := by
  unfold numOut
  rw [List.drop_left, scan_put n hn]
  rw [if_neg (by simp), if_neg (by simp), if_neg (by simp; omega)]
theorem str_put (pre t rest : List UInt8) (most : Int) (hn : t.length ≤ 1099511627776) (hm : (t.length : Int) ≤ most) :
    strOut (pre ++ (enc t.length ++ (t ++ rest))) pre.length 0 most = (t, pre.length + (enc t.length).length + t.length, 0) := by
  unfold strOut
  rw [num_put pre (t ++ rest) t.length most hn hm]
  rw [if_neg (by simp), if_neg (by simp), if_neg (by simp; omega)]
  have e1 : pre ++ (enc t.length ++ (t ++ rest)) = (pre ++ enc t.length) ++ (t ++ rest) := by simp
  have e2 : pre.length + (enc t.length).length = (pre ++ enc t.length).length := by simp
  simp only [e1, e2, List.drop_left, List.take_left]
theorem flag_put (pre rest : List UInt8) (b : Bool) :
    flagOut (pre ++ (enc (truth b) ++ rest)) pre.length 0 = (b, pre.length + (enc (truth b)).length, 0) := by
  unfold flagOut
  rw [num_put pre rest (truth b) 1099511627776 (by cases b <;> simp [truth]) (by cases b <;> simp [truth])]
  rw [if_neg (by simp), if_neg (by cases b <;> simp [truth])]
  cases b <;> simp [truth]

theorem awake_num : numOut [128, 0] 0 0 9 = (0, 0, 3) := by
  simp [numOut, scan]
theorem enc300 : enc (held 300) = [172, 2] := by
  rw [show held 300 = 300 from by simp [held]; rfl, enc_high (by omega), enc_low (by omega)]
  rfl

theorem Rd.below {w w' : World} {base g : Nat} {l : List UInt8} {at_ : Nat} {err : Int} (h : Rd w base g l at_ err) (hb : Below w.heap.size w w') : Rd w' base g l at_ err := by
  have hg := h.block.2
  obtain ⟨A, c, h1, h2, h3, h4⟩ := h
  refine ⟨A, c, h1, h2, ?_, h4.below (hb.mono (Nat.le_of_lt hg))⟩
  refine ⟨h3.1, ?_⟩
  rcases h3.2 with ⟨hv, _⟩ | ⟨g', cap, cur, hv, hb', hh, h5⟩
  · cases hv
  · have e1 : g = g' := by injection hv with hv; injection hv with hv; injection hv
    subst e1
    exact .inr ⟨g, cap, cur, hv, hb', by rw [hb.block g hg]; exact hh, h5⟩

theorem sees_on {w w' : World} {A : Option Addr} {xs : List Value} (h : Sees w w.heap.size A xs) (hb : Below w.heap.size w w') : Sees w' w'.heap.size A xs := (h.below hb).more hb.size
theorem on_below {w w1 w2 : World} (h : Below w.heap.size w w1) (h2 : Below w1.heap.size w1 w2) : Below w.heap.size w w2 := h.trans (h2.mono h.size)
theorem grown_on {w w1 w2 : World} {base g : Nat} {l : List UInt8} {a : Nat} {e : Int} (h : Below w.heap.size w w1) (hr : Rd w1 base g l a e) (hb : w.heap.size ≤ base) (hg : w1.grownBy w2 (some g)) : Below w.heap.size w w2 :=
  h.grown hg h.size (fun k hk => by cases hk; have := hr.block.1; omega)

end Go.Proofs.Ytgpbglmlakildaa

/- A list of pairs of integers that comes in: what the frame gives of it. -/
namespace Go.Proofs.Ytgpbglmlakildaa
set_option linter.unusedVariables false
open Go.ChangeShapes Go.WideShapes Go.ChangeAt Go.RowKit

/-- A slice of pairs, seen as a list. -/
def SeesP (w : World) (B : Nat) (A : Option Addr) (l : List (Int × Int)) : Prop :=
  0 < l.length → ∃ b o, A = some ⟨b, o, none⟩ ∧ b < B ∧ ∀ j (hj : j < l.length), w.cell? ⟨b, o + j * 2, none⟩ = some (.int .i64 l[j].1) ∧ w.cell? ⟨b, o + j * 2 + 1, none⟩ = some (.int .i64 l[j].2)
theorem SeesP.below {w w' : World} {B : Nat} {A : Option Addr} {l : List (Int × Int)} (h : SeesP w B A l) (hb : Below B w w') : SeesP w' B A l := fun h0 => by
  obtain ⟨b, o, e, hlt, hc⟩ := h h0
  exact ⟨b, o, e, hlt, fun j hj => ⟨(hb.cell (p := ⟨b, o + j * 2, none⟩) hlt).trans (hc j hj).1, (hb.cell (p := ⟨b, o + j * 2 + 1, none⟩) hlt).trans (hc j hj).2⟩⟩

/-- The pair that a datum is. -/
def pairOf {H : Type} : DataW H → Int × Int
  | .agg [.lit (.int _ a), .lit (.int _ b)] => (a, b)
  | _ => (0, 0)
theorem open_pairs {H : Type} {enc : TypeId × Value → H} {P : Program} {t e : TypeId} {f0 f1 : Field} {W : World} {v : Value} {d : DataW H} {ps : List MemPlace}
    (ht : P.underlying t = some (.slice e)) (hs : P.underlying e = some (.struct #[f0, f1])) (hC : P.cellsOf e = 2)
    (h0 : P.underlying f0.type = some (.int .i64)) (o0 : f0.offset = 0) (c0 : P.cellsOf f0.type = 1) (h1 : P.underlying f1.type = some (.int .i64)) (o1 : f1.offset = 1) (c1 : P.cellsOf f1.type = 1)
    {r : Reach} {base : Nat} (hv : Value.okWide P W r base t v) (h : DataW.Trod enc P W 0 (fun _ => true) true t v d ps) :
    ∃ A n c, ∃ l : List (Int × Int), v = .slice A n c ∧ n ≤ c ∧ c ≤ maxLen ∧ l.length = n ∧ SeesP W W.heap.size A l := by
  obtain ⟨A, n, c, rfl⟩ := okWide_slice ht hv
  obtain ⟨fuel, hf⟩ := h
  have hlt := DataW.trod_lt fuel _ _ _ hf
  rcases DataW.trod_slice ht hf with ⟨hcs, hx⟩ | ⟨x, len, cap, elems, rest, m, _, hcs, hx, hb, hl, hm, hlen, hel, _⟩
  · simp [Value.cells] at hcs
    obtain ⟨rfl, rfl, rfl⟩ := hcs
    exact ⟨none, 0, 0, [], rfl, Nat.le_refl _, by simp [maxLen], rfl, fun h => absurd h (by simp)⟩
  · simp [Value.cells] at hcs
    obtain ⟨rfl, rfl, rfl⟩ := hcs
    refine ⟨some x, n, c, elems.map (fun y => pairOf y.1), rfl, hl, hm, by simp [hlen], fun hpos => ?_⟩
    have each : ∀ j (hj : j < n), ∃ a b, elems[j]? = some (.agg [.lit (.int .i64 a), .lit (.int .i64 b)], []) ∧ W.cell? ((x.add (j * 2)).add 0) = some (.int .i64 a) ∧ W.cell? ((x.add (j * 2)).add 1) = some (.int .i64 b) := by
      intro j hj
      have hE := hel j hj
      have hg : elems[j]? = some (elems[j]'(by omega)) := List.getElem?_eq_getElem (by omega)
      rw [hg, hC, Option.bind_eq_some_iff] at hE
      obtain ⟨cs', hcs', hy⟩ := hE
      obtain ⟨y0, y1, k, hxx, hcl, t0, t1⟩ := trod_struct2 hs hy
      rw [o0, c0] at t0
      rw [o1, c1] at t1
      obtain ⟨a, e0, ex0, _⟩ := DataW.trod_int h0 t0
      obtain ⟨b, e1, ex1, _⟩ := DataW.trod_int h1 t1
      rw [hC] at hcl
      match cs', hcl with
      | [u0, u1], _ =>
        simp at e0 e1
        subst e0 e1
        have hc := World.cells?_some hcs'
        exact ⟨a, b, by rw [hg, hxx, ex0, ex1]; rfl, hc.2.2 0 (by omega), hc.2.2 1 (by omega)⟩
    have hpn : 0 < n := by simpa [hlen] using hpos
    obtain ⟨a0, b0, _, hz0, _⟩ := each 0 hpn
    obtain ⟨bk, off, spot⟩ := x
    have hspot : spot = none := by simpa [Addr.add] using World.cell?_spot hz0
    subst hspot
    refine ⟨bk, off, rfl, ?_, fun j hj => ?_⟩
    · simp only [Prod.mk.injEq] at hx
      obtain ⟨_, rfl⟩ := hx
      have := hlt (.cell bk off) (by simp [MemPlace.row, hC]; omega)
      simpa [MemPlace.block] using this
    · simp [hlen] at hj
      obtain ⟨a, b, he, ha, hb'⟩ := each j hj
      rw [add_at, add_at, Nat.add_zero] at ha
      rw [add_at, add_at] at hb'
      have hg : elems[j]? = some (elems[j]'(by omega)) := List.getElem?_eq_getElem (by omega)
      rw [hg, Option.some.injEq] at he
      rw [ha, hb']
      simp [he, pairOf]
end Go.Proofs.Ytgpbglmlakildaa

/- Two readers beside one another: the program's, and the document's, at the same place. -/
namespace Go.Proofs.Ytgpbglmlakildaa
set_option linter.unusedVariables false
open Go.ChangeShapes Go.WideShapes Go.ChangeAt Go.RowKit OctM

theorem grown_none {w w' : World} (h : Below w.heap.size w w') (row : Option Nat) : w.grownBy w' row := ⟨h.os, h.tape, h.output, h.size, fun k hk _ => h.block k hk⟩
theorem Own.laterO {w w' : World} {base : Nat} {e : TypeId} {v : Value} {xs : List Value} (h : Own w base e v xs) (hb : Below w.heap.size w w') : Own w' base e v xs := by
  refine h.kept (grown_none hb none) ?_
  rcases v.ownBlock with _ | g
  · exact .inl rfl
  · exact .inr (by simp)
theorem Rd.later {w w' : World} {base g : Nat} {l : List UInt8} {a : Nat} {e : Int} (h : Rd w base g l a e) (hb : Below w.heap.size w w') : Rd w' base g l a e := by
  have hg := h.block.2
  obtain ⟨A, c, h1, h2, h3, h4⟩ := h
  exact ⟨A, c, h1, h2, h3.laterO hb, h4.below (hb.mono (Nat.le_of_lt hg))⟩
theorem Rr.later {w w' : World} {base g : Nat} {l : List UInt8} {e : Int} (h : Rr w base g l e) (hb : Below w.heap.size w w') : Rr w' base g l e := Own.laterO h hb
theorem Rr.block {w : World} {base g : Nat} {l : List UInt8} {e : Int} (h : Rr w base g l e) : base ≤ g ∧ g < w.heap.size := Own.lt h g rfl
theorem Rd.other {w w' : World} {base g m : Nat} {l : List UInt8} {a : Nat} {e : Int} (h : Rd w base g l a e) (hg : w.grownBy w' (some m)) (hm : g < m) : Rd w' base g l a e := by
  have hlt := h.block.2
  obtain ⟨A, c, h1, h2, h3, h4⟩ := h
  exact ⟨A, c, h1, h2, h3.kept hg (.inr (by simp [Value.ownBlock]; omega)), h4.grown hg (Nat.le_of_lt hlt) (fun k hk => by cases hk; omega)⟩
theorem Rr.other {w w' : World} {base g m : Nat} {l : List UInt8} {e : Int} (h : Rr w base g l e) (hg : w.grownBy w' (some m)) (hm : m < g) : Rr w' base g l e :=
  Own.kept h hg (.inr (by simp [Value.ownBlock]; omega))

/-- Both readers, and what was there before them as it was. -/
def Two (W w : World) (gr gm : Nat) (l : List UInt8) (a : Nat) (e : Int) (l' : List UInt8) (e' : Int) : Prop :=
  Rd w W.heap.size gr l a e ∧ Rr w W.heap.size gm l' e' ∧ gr < gm ∧ Below W.heap.size W w
theorem Two.later {W w w' : World} {gr gm : Nat} {l : List UInt8} {a : Nat} {e : Int} {l' : List UInt8} {e' : Int} (h : Two W w gr gm l a e l' e') (hb : Below w.heap.size w w') : Two W w' gr gm l a e l' e' :=
  ⟨h.1.later hb, h.2.1.later hb, h.2.2.1, on_below h.2.2.2 hb⟩
theorem Two.drewN {W w : World} {gr gm : Nat} {l : List UInt8} {a : Nat} {e : Int} {l' : List UInt8} {e' : Int} (h : Two W w gr gm l a e l' e') (k : Nat) : Two W (w.drewN k) gr gm l a e l' e' :=
  h.later (below_drewN (Below.refl _ _) k)
theorem Two.first {W w w' : World} {gr gm : Nat} {l : List UInt8} {a a2 : Nat} {e e2 : Int} {l' : List UInt8} {e' : Int} (h : Two W w gr gm l a e l' e') (hr : Rd w' W.heap.size gr l a2 e2) (hg : w.grownBy w' (some gr)) : Two W w' gr gm l a2 e2 l' e' :=
  ⟨hr, h.2.1.other hg h.2.2.1, h.2.2.1, h.2.2.2.grown hg h.2.2.2.size (fun k hk => by cases hk; exact h.1.block.1)⟩
theorem Two.second {W w w' : World} {gr gm : Nat} {l : List UInt8} {a : Nat} {e : Int} {l' l2 : List UInt8} {e' e2 : Int} (h : Two W w gr gm l a e l' e') (hr : Rr w' W.heap.size gm l2 e2) (hg : w.grownBy w' (some gm)) : Two W w' gr gm l a e l2 e2 :=
  ⟨h.1.other hg h.2.2.1, hr, h.2.2.1, h.2.2.2.grown hg h.2.2.2.size (fun k hk => by cases hk; exact h.2.1.block.1)⟩

/-- Both at the same place. -/
def Same2 (W w : World) (gr gm : Nat) (l : List UInt8) (a : Nat) (e : Int) : Prop := Two W w gr gm l a e (l.drop a) e ∧ a ≤ l.length ∧ l.length ≤ 2000

theorem strOut_at (l : List UInt8) (a : Nat) (e m : Int) (h : a ≤ l.length) : (strOut l a e m).2.1 ≤ l.length := by
  have h2 := numOut_at l a 0 m h
  unfold strOut
  split
  · exact h
  · split
    · assumption
    · split
      · exact h
      · simp; omega
theorem flagOut_at (l : List UInt8) (a : Nat) (e : Int) (h : a ≤ l.length) : (flagOut l a e).2.1 ≤ l.length := by
  have h2 := numOut_at l a 0 1099511627776 h
  unfold flagOut
  split
  · exact h
  · split
    · exact h
    · assumption
end Go.Proofs.Ytgpbglmlakildaa

/- Two readers beside one another: each read, by one and by the other. -/
namespace Go.Proofs.Ytgpbglmlakildaa
set_option linter.unusedVariables false
open Go.RowKit OctM

section
variable {W w : World} {gr gm : Nat} {l : List UInt8} {a : Nat} {e : Int} {l' : List UInt8} {e' : Int}
theorem two_num1 (y : Int) (T : Two W w gr gm l a e l' e') (ha : a ≤ l.length) (hm : l.length ≤ 2000) :
    Calls Try.prog 69 #[.pointer (some ⟨gr, 0, none⟩), .int .i64 y] w fun x w' => x = .returned (.int .i64 ((numOut l a e y).1 : Nat)) ∧ Two W w' gr gm l (numOut l a e y).2.1 (numOut l a e y).2.2 l' e' :=
  (rd_num _ gr l a e y w T.1 ha (by omega)).mono fun x w' h => ⟨h.1, T.first h.2.1 h.2.2⟩
theorem two_num2 (y : Int) {a2 : Nat} {e2 : Int} (T : Two W w gr gm l a2 e2 (l.drop a) e) (hm : l.length ≤ 2000) :
    Calls Try.prog 72 #[.pointer (some ⟨gm, 0, none⟩), .int .i64 y] w fun x w' => x = .returned (.int .i64 ((numOut l a e y).1 : Nat)) ∧ Two W w' gr gm l a2 e2 (l.drop (numOut l a e y).2.1) (numOut l a e y).2.2 :=
  (rr_num _ gm (l.drop a) e y w T.2.1 (by simp; omega)).mono fun x w' h => by
    rw [same_num] at h
    exact ⟨h.1, T.second h.2.1 h.2.2⟩
theorem two_str1 (y : Int) (T : Two W w gr gm l a e l' e') (ha : a ≤ l.length) (hm : l.length ≤ 2000) :
    Calls Try.prog 115 #[.pointer (some ⟨gr, 0, none⟩), .int .i64 y] w fun x w' => x = .returned (.string (str (strOut l a e y).1)) ∧ Two W w' gr gm l (strOut l a e y).2.1 (strOut l a e y).2.2 l' e' :=
  (rd_str _ gr l a e y w T.1 ha (by omega)).mono fun x w' h => ⟨h.1, T.first h.2.1 h.2.2⟩
theorem two_str2 (y : Int) {a2 : Nat} {e2 : Int} (T : Two W w gr gm l a2 e2 (l.drop a) e) (ha : a ≤ l.length) (hm : l.length ≤ 2000) :
    Calls Try.prog 116 #[.pointer (some ⟨gm, 0, none⟩), .int .i64 y] w fun x w' => x = .returned (.string (str (strOut l a e y).1)) ∧ Two W w' gr gm l a2 e2 (l.drop (strOut l a e y).2.1) (strOut l a e y).2.2 :=
  (rr_str _ gm (l.drop a) e y w T.2.1 (by simp; omega)).mono fun x w' h => by
    rw [same_str _ _ _ _ ha] at h
    exact ⟨h.1, T.second h.2.1 h.2.2⟩
theorem two_fail1 (y : Int) (T : Two W w gr gm l a e l' e') :
    Calls Try.prog 70 #[.pointer (some ⟨gr, 0, none⟩), .int .i64 y] w fun x w' => x = .returned (.tuple #[]) ∧ Two W w' gr gm l a (failOut e y) l' e' :=
  (rd_fail _ gr l a e y w T.1).mono fun x w' h => ⟨h.1, T.first h.2.1 h.2.2⟩
theorem two_fail2 (y : Int) (T : Two W w gr gm l a e l' e') :
    Calls Try.prog 73 #[.pointer (some ⟨gm, 0, none⟩), .int .i64 y] w fun x w' => x = .returned (.tuple #[]) ∧ Two W w' gr gm l a e l' (failOut e' y) :=
  (rr_fail _ gm l' e' y w T.2.1).mono fun x w' h => ⟨h.1, T.second h.2.1 h.2.2⟩
theorem drewN_below (w : World) (k : Nat) : Below w.heap.size w (w.drewN k) := below_drewN (Below.refl _ _) k
theorem two_left (T : Two W w gr gm l a e l' e') (ha : a ≤ l.length) (hm : l.length ≤ 2000) (q : Nat) (hq : q = l.length - a) :
    Calls Try.prog 39 #[.pointer (some ⟨gr, 0, none⟩)] w fun x w' => x = .returned (.int .i64 (q : Int)) ∧ Below w.heap.size w w' :=
  (rd_left _ gr l a e w T.1 ha (by omega)).mono fun x w' ⟨h, k, hk⟩ => ⟨by rw [h, hq]; congr 2; omega, hk ▸ drewN_below w k⟩
theorem two_err (T : Two W w gr gm l a e l' e') :
    Calls Try.prog 38 #[.pointer (some ⟨gr, 0, none⟩)] w fun x w' => x = .returned (.int .i64 e) ∧ Below w.heap.size w w' :=
  (rd_err _ gr l a e w T.1).mono fun x w' ⟨h, hk⟩ => ⟨h, hk ▸ Below.refl _ _⟩
theorem two_cells (T : Two W w gr gm l a e l' e') : w.cell? ⟨gm, 0, none⟩ = some (.string (str l')) ∧ w.cell? ⟨gm, 1, none⟩ = some (.int .i64 e') := ⟨T.2.1.facts.1, T.2.1.facts.2.1⟩
end
end Go.Proofs.Ytgpbglmlakildaa

/- What memory becomes where a call writes its own blocks; a result that lies in a block: general. -/
namespace Go.Proofs.Ytgpbglmlakildaa
set_option linter.unusedVariables false
open Go Go.RowKit

theorem tok_results {P : Program} {fn : Func} {q : Tmp} {ty : TypeId} (h : fn.results = #[.cell q ty]) (tmps : Array Value) (w : World) (g : Nat) (cs : List Value) (d : TypeDesc)
    (hq : tmps.getD q undef = .pointer (some ⟨g, 0, none⟩)) (hB : Blk w g cs)
    (hu : P.underlying ty = some d) (hd : (match d with | .struct _ | .array _ _ => true | _ => false) = true) (hi : (P.info? ty).map (·.size) = some cs.length) :
    (results fn tmps).run P w = .ok (.agg cs.toArray) w := by
  obtain ⟨t, hB⟩ := hB
  exact results_cell_row h tmps w g t cs.toArray (0, 0) d hq hB hu hd (by simpa using hi)
theorem grown_set1 (w : World) (b j : Nat) (v : Value) : w.grownBy (w.setCell ⟨b, j, none⟩ v) (some b) :=
  ⟨rfl, rfl, rfl, by simp [World.setCell], fun k _ hk => Below.heap_setCell _ _ _ k (fun e => hk (by rw [e]))⟩
theorem Blk.wholeT {w : World} {g : Nat} {cs ds : List Value} (h : Blk w g cs) (hl : ds.length = cs.length) : Blk (w.setCells g 0 ds) g ds := by
  have h2 := h.sets ds 0 (by omega)
  rw [List.take_zero, List.nil_append, List.drop_eq_nil_of_le (by omega), List.append_nil] at h2
  exact h2
theorem grown_sets4 (b : Nat) : ∀ (vs : List Value) (o : Nat) (w : World), w.grownBy (w.setCells b o vs) (some b)
  | [], _, w => World.grownBy.refl w _
  | v :: vs, o, w => (grown_set1 w b o v).trans (grown_sets4 b vs (o + 1) _)
theorem grown_new {a b c : World} {row : Option Nat} {m : Nat} (h : a.grownBy b row) (k : b.grownBy c (some m)) (hm : a.heap.size ≤ m) : a.grownBy c row :=
  ⟨k.os.trans h.os, k.tape.trans h.tape, k.output.trans h.output, Nat.le_trans h.size k.size, fun i hi hr => (k.block i (Nat.lt_of_lt_of_le hi h.size) (by simp; omega)).trans (h.block i hi hr)⟩

end Go.Proofs.Ytgpbglmlakildaa

/- Values as they are read of bytes: the program's. -/
namespace Go.Proofs.Ytgpbglmlakildaa
set_option linter.unusedVariables false
open Go Go.RowKit OctM

def valEnd (k n : Int) (s : List UInt8) (a : Nat) (e : Int) : V3 × Nat × Int := (if e = 0 then (k, n, str s) else zv, a, e)
/-- What is read of bytes: the value, how far, the error. -/
def valOut (l : List UInt8) (a : Nat) (e : Int) : V3 × Nat × Int :=
  if (numOut l a e 2).1 = 1 then valEnd 1 ((numOut l (numOut l a e 2).2.1 (numOut l a e 2).2.2 1099511627776).1 : Nat) [] (numOut l (numOut l a e 2).2.1 (numOut l a e 2).2.2 1099511627776).2.1 (numOut l (numOut l a e 2).2.1 (numOut l a e 2).2.2 1099511627776).2.2
  else if (numOut l a e 2).1 = 2 then valEnd 2 0 (strOut l (numOut l a e 2).2.1 (numOut l a e 2).2.2 24).1 (strOut l (numOut l a e 2).2.1 (numOut l a e 2).2.2 24).2.1 (strOut l (numOut l a e 2).2.1 (numOut l a e 2).2.2 24).2.2
  else valEnd ((numOut l a e 2).1 : Nat) 0 [] (numOut l a e 2).2.1 (numOut l a e 2).2.2
theorem valOut_at (l : List UInt8) (a : Nat) (e : Int) (h : a ≤ l.length) : (valOut l a e).2.1 ≤ l.length := by
  unfold valOut valEnd
  split
  · exact numOut_at _ _ _ _ (numOut_at _ _ _ _ h)
  · split
    · exact strOut_at _ _ _ _ (numOut_at _ _ _ _ h)
    · exact numOut_at _ _ _ _ h
theorem valEnd_no {k n : Int} {s : List UInt8} {a : Nat} {e : Int} (h : (e != 0) = true) : valEnd k n s a e = (zv, a, e) := by
  unfold valEnd
  rw [if_neg (by simpa using h)]
theorem valEnd_yes {k n : Int} {s : List UInt8} {a : Nat} {e : Int} (h : (e != 0) = false) : valEnd k n s a e = ((k, n, str s), a, e) := by
  unfold valEnd
  rw [if_pos (by simpa using h)]
theorem vcells_all (v : V3) : (vcells v).toArray.all (·.oneCell') = true := by
  refine all_oneCell_toArray fun u hu => ?_
  simp only [vcells, List.mem_cons, List.not_mem_nil, or_false] at hu
  rcases hu with rfl | rfl | rfl <;> rfl
set_option maxRecDepth 100000 in
set_option maxHeartbeats 3200000 in
theorem rd_value0 (base g : Nat) (l : List UInt8) (a : Nat) (e : Int) (w : World) (h : Rd w base g l a e) (ha : a ≤ l.length) (hm : l.length ≤ 2000) (hc : (numOut l a e 2).1 ≠ 1 ∧ (numOut l a e 2).1 ≠ 2) (T : V3 × Nat × Int) (hT : T = valEnd ((numOut l a e 2).1 : Nat) 0 [] (numOut l a e 2).2.1 (numOut l a e 2).2.2) :
    Calls Try.prog 97 #[.pointer (some ⟨g, 0, none⟩)] w fun x w' => x = .returned (.agg (vcells T.1).toArray) ∧ Rd w' base g l T.2.1 T.2.2 ∧ w.grownBy w' (some g) := by
  have hg := h.block.2
  have A1 := numOut_at l a e 2 ha
  have H1 : Hid (∀ wx, Rd wx base g l a e → Calls Try.prog 69 #[.pointer (some ⟨g, 0, none⟩), .int .i64 2] wx fun x w' => x = .returned (.int .i64 ((numOut l a e 2).1 : Nat)) ∧ Rd w' base g l (numOut l a e 2).2.1 (numOut l a e 2).2.2 ∧ wx.grownBy w' (some g)) := Lib.hid fun wx hx => rd_num base g l a e 2 wx hx ha (by omega)
  obtain ⟨r1, hr1⟩ : ∃ r, r = numOut l a e 2 := ⟨_, rfl⟩
  rw [← hr1] at H1 A1 hT hc
  obtain ⟨v1, a1, e1⟩ := r1
  simp only at H1 A1 hT hc
  obtain ⟨k, hk⟩ : ∃ k : Int, k = (v1 : Int) := ⟨_, rfl⟩
  rw [← hk] at H1 hT
  have t1 : (k == 1) = false := by rw [hk]; simp; omega
  have t2 : (k == 2) = false := by rw [hk]; simp; omega
  have HK : Hid (k = k) := Lib.hid rfl
  clear hk
  have HE : Hid (∀ wx, Rd wx base g l a1 e1 → Calls Try.prog 38 #[.pointer (some ⟨g, 0, none⟩)] wx fun x w' => x = .returned (.int .i64 e1) ∧ wx = w') := Lib.hid fun wx hx => rd_err base g l a1 e1 wx hx
  have HT := Lib.hid hT
  clear hr1 hT hc A1 ha hm
  have B2 := Blk.new w (vcells zv) 27
  have R0 := h.later ((Below.refl w.heap.size w).alloc (Nat.le_refl _) (.cells (vcells zv).toArray 27))
  have G0 := World.grownBy_alloc w (.cells (vcells zv).toArray 27) (some g)
  have hu := Try.underlying27
  clear h
  have hne : (some g : Option Nat) ≠ some w.heap.size := by simp; omega
  obtain ⟨be, hbe⟩ : ∃ b, b = (e1 != 0) := ⟨_, rfl⟩
  have ke : (e1 != 0) = be := hbe.symm
  clear hbe
  go_enter Try.func97, Try.ntmps97
  go_wp2_with fail
  refine (H1.out _ R0).mono ?_
  rintro x w2 ⟨rfl, R2, G2⟩
  replace B2 := B2.kept G2 hne
  have GG := G0.trans G2
  clear R0 G0 G2
  have B3 := Blk.new w2 (vcells zv) 27
  have T3 := B3.there 0 3 (Nat.le_refl _)
  have S3 := B3.wholeT (ds := (vcells (k, 0, ⟨#[]⟩))) rfl
  have LE3 : Le w2 (World.setCells (w2.alloc (.cells (vcells zv).toArray 27)) w2.heap.size 0 (vcells (k, 0, ⟨#[]⟩))) := below_sets (Nat.le_refl _) _ 0 ((Below.refl w2.heap.size w2).alloc (Nat.le_refl _) _)
  have O3 : ((vcells (k, 0, ⟨#[]⟩))).toArray.all (·.oneCell') = true := vcells_all _
  have hsz := GG.size
  clear B3
  obtain ⟨g3, hg3⟩ : ∃ z, z = w2.heap.size := ⟨_, rfl⟩
  have hb2 := B2.lt
  rw [← hg3] at T3 S3 LE3 hsz hb2
  have HG3 := Lib.hid hg3
  clear hg3
  go_wp2_with (first
    | (rw [← HG3.out]
       refine wpList_store_mid rfl 27 (.tmp 3) (.tmp 6) rfl g3 0 ((vcells (k, 0, ⟨#[]⟩))).toArray rfl rfl T3 info_val O3 ?_
       simp only [Act.put]
       generalize hw3 : World.setCells _ g3 0 ((vcells (k, 0, ⟨#[]⟩))).toArray.toList = w3
       have S3' : Blk w3 g3 (vcells (k, 0, ⟨#[]⟩)) := hw3 ▸ S3
       have LE3' : Le w2 w3 := hw3 ▸ LE3
       have q1 : w3.cell? ⟨g3, 0, none⟩ = some (.int .i64 k) := S3'.cell rfl
       clear hw3 T3 S3 LE3 O3)
    | fail)
  have hne3 : (some g : Option Nat) ≠ some g3 := by simp; omega
  have R3 := R2.later LE3'
  replace B2 := B2.later LE3'
  replace GG := GG.trans (grown_none LE3' _)
  clear R2 LE3' q1
  refine (HE.out _ R3).mono ?_
  rintro x w9 ⟨rfl, rfl⟩
  have S8 := S3'
  have R8 := R3
  have B8 := B2
  have G8 := GG
  clear S3' R3 B2 GG
  cases be
  · have T8 := B8.there 0 3 (Nat.le_refl _)
    have FIN := B8.wholeT (ds := (vcells (k, 0, ⟨#[]⟩))) rfl
    have O8 : ((vcells (k, 0, ⟨#[]⟩))).toArray.all (·.oneCell') = true := vcells_all _
    have RG := S8.range 0 (vcells (k, 0, ⟨#[]⟩)) rfl
    have R9 := R8.other (grown_sets4 w.heap.size (vcells (k, 0, ⟨#[]⟩)) 0 w3) (by omega)
    have G9 := grown_new G8 (grown_sets4 w.heap.size (vcells (k, 0, ⟨#[]⟩)) 0 w3) (by omega)
    clear S8 R8 B8 G8
    go_wp2_with (first
      | (refine wpList_load_mid rfl 27 (.tmp 3) rfl g3 0 rfl (vcells (k, 0, ⟨#[]⟩)) _ RG hu rfl info_val ?_)
      | (refine wpList_store_mid rfl 27 (.tmp 2) (.tmp 23) rfl w.heap.size 0 ((vcells (k, 0, ⟨#[]⟩))).toArray rfl rfl T8 info_val O8 ?_)
      | fail)
    exact bodyPost_ret (v := .agg ((vcells (k, 0, ⟨#[]⟩))).toArray) (tok_results (q := 2) rfl _ _ w.heap.size _ _ rfl FIN hu rfl info_val) rfl ⟨by rw [HT.out, valEnd_yes ke]; rfl, by rw [HT.out, valEnd_yes ke]; exact R9, G9⟩
  · have T8 := B8.there 0 3 (Nat.le_refl _)
    have FIN := B8.wholeT (ds := (vcells zv)) rfl
    have O8 : ((vcells zv)).toArray.all (·.oneCell') = true := vcells_all _
    have RG := S8.range 0 (vcells (k, 0, ⟨#[]⟩)) rfl
    have R9 := R8.other (grown_sets4 w.heap.size (vcells zv) 0 w3) (by omega)
    have G9 := grown_new G8 (grown_sets4 w.heap.size (vcells zv) 0 w3) (by omega)
    clear S8 R8 B8 G8
    go_wp2_with (first
      | (refine wpList_load_mid rfl 27 (.tmp 3) rfl g3 0 rfl (vcells (k, 0, ⟨#[]⟩)) _ RG hu rfl info_val ?_)
      | (refine wpList_store_mid rfl 27 (.tmp 2) (.tmp 22) rfl w.heap.size 0 ((vcells zv)).toArray rfl rfl T8 info_val O8 ?_)
      | fail)
    exact bodyPost_ret (v := .agg ((vcells zv)).toArray) (tok_results (q := 2) rfl _ _ w.heap.size _ _ rfl FIN hu rfl info_val) rfl ⟨by rw [HT.out, valEnd_no ke], by rw [HT.out, valEnd_no ke]; exact R9, G9⟩
set_option maxRecDepth 100000 in
set_option maxHeartbeats 3200000 in
theorem rd_value1 (base g : Nat) (l : List UInt8) (a : Nat) (e : Int) (w : World) (h : Rd w base g l a e) (ha : a ≤ l.length) (hm : l.length ≤ 2000) (hc : (numOut l a e 2).1 = 1) (T : V3 × Nat × Int) (hT : T = valEnd 1 ((numOut l (numOut l a e 2).2.1 (numOut l a e 2).2.2 1099511627776).1 : Nat) [] (numOut l (numOut l a e 2).2.1 (numOut l a e 2).2.2 1099511627776).2.1 (numOut l (numOut l a e 2).2.1 (numOut l a e 2).2.2 1099511627776).2.2) :
    Calls Try.prog 97 #[.pointer (some ⟨g, 0, none⟩)] w fun x w' => x = .returned (.agg (vcells T.1).toArray) ∧ Rd w' base g l T.2.1 T.2.2 ∧ w.grownBy w' (some g) := by
  have hg := h.block.2
  have A1 := numOut_at l a e 2 ha
  have H1 : Hid (∀ wx, Rd wx base g l a e → Calls Try.prog 69 #[.pointer (some ⟨g, 0, none⟩), .int .i64 2] wx fun x w' => x = .returned (.int .i64 ((numOut l a e 2).1 : Nat)) ∧ Rd w' base g l (numOut l a e 2).2.1 (numOut l a e 2).2.2 ∧ wx.grownBy w' (some g)) := Lib.hid fun wx hx => rd_num base g l a e 2 wx hx ha (by omega)
  obtain ⟨r1, hr1⟩ : ∃ r, r = numOut l a e 2 := ⟨_, rfl⟩
  rw [← hr1] at H1 A1 hT hc
  obtain ⟨v1, a1, e1⟩ := r1
  simp only at H1 A1 hT hc
  have H2 : Hid (∀ wx, Rd wx base g l a1 e1 → Calls Try.prog 69 #[.pointer (some ⟨g, 0, none⟩), .int .i64 1099511627776] wx fun x w' => x = .returned (.int .i64 ((numOut l a1 e1 1099511627776).1 : Nat)) ∧ Rd w' base g l (numOut l a1 e1 1099511627776).2.1 (numOut l a1 e1 1099511627776).2.2 ∧ wx.grownBy w' (some g)) := Lib.hid fun wx hx => rd_num base g l a1 e1 1099511627776 wx hx A1 (by omega)
  obtain ⟨r2, hr2⟩ : ∃ r, r = numOut l a1 e1 1099511627776 := ⟨_, rfl⟩
  rw [← hr2] at H2 hT
  obtain ⟨v2, a5, e5⟩ := r2
  simp only at H2 hT
  obtain ⟨k, hk⟩ : ∃ k : Int, k = (v1 : Int) := ⟨_, rfl⟩
  rw [← hk] at H1
  obtain ⟨n, hn⟩ : ∃ n : Int, n = (v2 : Int) := ⟨_, rfl⟩
  rw [← hn] at H2 hT
  have t1 : (k == 1) = true := by rw [hk, hc]; rfl
  have t2 : (k == 2) = false := by rw [hk, hc]; rfl
  have HK : Hid (k = 1) := Lib.hid (by rw [hk, hc]; rfl)
  clear hk hn hr2
  have HE : Hid (∀ wx, Rd wx base g l a5 e5 → Calls Try.prog 38 #[.pointer (some ⟨g, 0, none⟩)] wx fun x w' => x = .returned (.int .i64 e5) ∧ wx = w') := Lib.hid fun wx hx => rd_err base g l a5 e5 wx hx
  have HT := Lib.hid hT
  clear hr1 hT hc A1 ha hm
  have B2 := Blk.new w (vcells zv) 27
  have R0 := h.later ((Below.refl w.heap.size w).alloc (Nat.le_refl _) (.cells (vcells zv).toArray 27))
  have G0 := World.grownBy_alloc w (.cells (vcells zv).toArray 27) (some g)
  have hu := Try.underlying27
  clear h
  have hne : (some g : Option Nat) ≠ some w.heap.size := by simp; omega
  obtain ⟨be, hbe⟩ : ∃ b, b = (e5 != 0) := ⟨_, rfl⟩
  have ke : (e5 != 0) = be := hbe.symm
  clear hbe
  go_enter Try.func97, Try.ntmps97
  go_wp2_with fail
  refine (H1.out _ R0).mono ?_
  rintro x w2 ⟨rfl, R2, G2⟩
  replace B2 := B2.kept G2 hne
  have GG := G0.trans G2
  clear R0 G0 G2
  have B3 := Blk.new w2 (vcells zv) 27
  have T3 := B3.there 0 3 (Nat.le_refl _)
  have S3 := B3.wholeT (ds := (vcells (k, 0, ⟨#[]⟩))) rfl
  have LE3 : Le w2 (World.setCells (w2.alloc (.cells (vcells zv).toArray 27)) w2.heap.size 0 (vcells (k, 0, ⟨#[]⟩))) := below_sets (Nat.le_refl _) _ 0 ((Below.refl w2.heap.size w2).alloc (Nat.le_refl _) _)
  have O3 : ((vcells (k, 0, ⟨#[]⟩))).toArray.all (·.oneCell') = true := vcells_all _
  have hsz := GG.size
  clear B3
  obtain ⟨g3, hg3⟩ : ∃ z, z = w2.heap.size := ⟨_, rfl⟩
  have hb2 := B2.lt
  rw [← hg3] at T3 S3 LE3 hsz hb2
  have HG3 := Lib.hid hg3
  clear hg3
  go_wp2_with (first
    | (rw [← HG3.out]
       refine wpList_store_mid rfl 27 (.tmp 3) (.tmp 6) rfl g3 0 ((vcells (k, 0, ⟨#[]⟩))).toArray rfl rfl T3 info_val O3 ?_
       simp only [Act.put]
       generalize hw3 : World.setCells _ g3 0 ((vcells (k, 0, ⟨#[]⟩))).toArray.toList = w3
       have S3' : Blk w3 g3 (vcells (k, 0, ⟨#[]⟩)) := hw3 ▸ S3
       have LE3' : Le w2 w3 := hw3 ▸ LE3
       have q1 : w3.cell? ⟨g3, 0, none⟩ = some (.int .i64 k) := S3'.cell rfl
       clear hw3 T3 S3 LE3 O3)
    | fail)
  have hne3 : (some g : Option Nat) ≠ some g3 := by simp; omega
  have R3 := R2.later LE3'
  replace B2 := B2.later LE3'
  replace GG := GG.trans (grown_none LE3' _)
  clear R2 LE3' q1
  refine (H2.out _ R3).mono ?_
  rintro x w5 ⟨rfl, R5, G5⟩
  replace B2 := B2.kept G5 hne
  have S5 := S3'.kept G5 hne3
  replace GG := GG.trans G5
  have f1 := S5.frozen 1
  have q1 : w5.cell? ⟨g3, 1, none⟩ = some (.int .i64 0) := S5.cell rfl
  have S8 : Blk (w5.setCell ⟨g3, 1, none⟩ (.int .i64 n)) g3 (vcells (k, n, ⟨#[]⟩)) := S5.set 1 _
  have R8 := R5.other (grown_set1 w5 g3 1 (.int .i64 n)) (by omega)
  have B8 := B2.setOther (b := g3) 1 (.int .i64 n) (by omega)
  have G8 := grown_new GG (grown_set1 w5 g3 1 (.int .i64 n)) hsz
  clear R3 R5 G5 B2 S3' S5 GG
  go_wp2_with fail
  obtain ⟨w8, hw8⟩ : ∃ z, z = w5.setCell ⟨g3, 1, none⟩ (.int .i64 n) := ⟨_, rfl⟩
  rw [← hw8] at S8 R8 B8 G8 ⊢
  clear hw8 f1 q1
  refine (HE.out _ R8).mono ?_
  rintro x w9 ⟨rfl, rfl⟩
  cases be
  · have T8 := B8.there 0 3 (Nat.le_refl _)
    have FIN := B8.wholeT (ds := (vcells (k, n, ⟨#[]⟩))) rfl
    have O8 : ((vcells (k, n, ⟨#[]⟩))).toArray.all (·.oneCell') = true := vcells_all _
    have RG := S8.range 0 (vcells (k, n, ⟨#[]⟩)) rfl
    have R9 := R8.other (grown_sets4 w.heap.size (vcells (k, n, ⟨#[]⟩)) 0 w8) (by omega)
    have G9 := grown_new G8 (grown_sets4 w.heap.size (vcells (k, n, ⟨#[]⟩)) 0 w8) (by omega)
    clear S8 R8 B8 G8
    go_wp2_with (first
      | (refine wpList_load_mid rfl 27 (.tmp 3) rfl g3 0 rfl (vcells (k, n, ⟨#[]⟩)) _ RG hu rfl info_val ?_)
      | (refine wpList_store_mid rfl 27 (.tmp 2) (.tmp 23) rfl w.heap.size 0 ((vcells (k, n, ⟨#[]⟩))).toArray rfl rfl T8 info_val O8 ?_)
      | fail)
    exact bodyPost_ret (v := .agg ((vcells (k, n, ⟨#[]⟩))).toArray) (tok_results (q := 2) rfl _ _ w.heap.size _ _ rfl FIN hu rfl info_val) rfl ⟨by rw [HT.out, valEnd_yes ke]; rw [HK.out]; rfl, by rw [HT.out, valEnd_yes ke]; exact R9, G9⟩
  · have T8 := B8.there 0 3 (Nat.le_refl _)
    have FIN := B8.wholeT (ds := (vcells zv)) rfl
    have O8 : ((vcells zv)).toArray.all (·.oneCell') = true := vcells_all _
    have RG := S8.range 0 (vcells (k, n, ⟨#[]⟩)) rfl
    have R9 := R8.other (grown_sets4 w.heap.size (vcells zv) 0 w8) (by omega)
    have G9 := grown_new G8 (grown_sets4 w.heap.size (vcells zv) 0 w8) (by omega)
    clear S8 R8 B8 G8
    go_wp2_with (first
      | (refine wpList_load_mid rfl 27 (.tmp 3) rfl g3 0 rfl (vcells (k, n, ⟨#[]⟩)) _ RG hu rfl info_val ?_)
      | (refine wpList_store_mid rfl 27 (.tmp 2) (.tmp 22) rfl w.heap.size 0 ((vcells zv)).toArray rfl rfl T8 info_val O8 ?_)
      | fail)
    exact bodyPost_ret (v := .agg ((vcells zv)).toArray) (tok_results (q := 2) rfl _ _ w.heap.size _ _ rfl FIN hu rfl info_val) rfl ⟨by rw [HT.out, valEnd_no ke], by rw [HT.out, valEnd_no ke]; exact R9, G9⟩
set_option maxRecDepth 100000 in
set_option maxHeartbeats 3200000 in
theorem rd_value2 (base g : Nat) (l : List UInt8) (a : Nat) (e : Int) (w : World) (h : Rd w base g l a e) (ha : a ≤ l.length) (hm : l.length ≤ 2000) (hc : (numOut l a e 2).1 = 2) (T : V3 × Nat × Int) (hT : T = valEnd 2 0 (strOut l (numOut l a e 2).2.1 (numOut l a e 2).2.2 24).1 (strOut l (numOut l a e 2).2.1 (numOut l a e 2).2.2 24).2.1 (strOut l (numOut l a e 2).2.1 (numOut l a e 2).2.2 24).2.2) :
    Calls Try.prog 97 #[.pointer (some ⟨g, 0, none⟩)] w fun x w' => x = .returned (.agg (vcells T.1).toArray) ∧ Rd w' base g l T.2.1 T.2.2 ∧ w.grownBy w' (some g) := by
  have hg := h.block.2
  have A1 := numOut_at l a e 2 ha
  have H1 : Hid (∀ wx, Rd wx base g l a e → Calls Try.prog 69 #[.pointer (some ⟨g, 0, none⟩), .int .i64 2] wx fun x w' => x = .returned (.int .i64 ((numOut l a e 2).1 : Nat)) ∧ Rd w' base g l (numOut l a e 2).2.1 (numOut l a e 2).2.2 ∧ wx.grownBy w' (some g)) := Lib.hid fun wx hx => rd_num base g l a e 2 wx hx ha (by omega)
  obtain ⟨r1, hr1⟩ : ∃ r, r = numOut l a e 2 := ⟨_, rfl⟩
  rw [← hr1] at H1 A1 hT hc
  obtain ⟨v1, a1, e1⟩ := r1
  simp only at H1 A1 hT hc
  have H2 : Hid (∀ wx, Rd wx base g l a1 e1 → Calls Try.prog 115 #[.pointer (some ⟨g, 0, none⟩), .int .i64 24] wx fun x w' => x = .returned (.string (str (strOut l a1 e1 24).1)) ∧ Rd w' base g l (strOut l a1 e1 24).2.1 (strOut l a1 e1 24).2.2 ∧ wx.grownBy w' (some g)) := Lib.hid fun wx hx => rd_str base g l a1 e1 24 wx hx A1 (by omega)
  obtain ⟨r2, hr2⟩ : ∃ r, r = strOut l a1 e1 24 := ⟨_, rfl⟩
  rw [← hr2] at H2 hT
  obtain ⟨v2, a5, e5⟩ := r2
  simp only at H2 hT
  obtain ⟨k, hk⟩ : ∃ k : Int, k = (v1 : Int) := ⟨_, rfl⟩
  rw [← hk] at H1
  have t1 : (k == 1) = false := by rw [hk, hc]; rfl
  have t2 : (k == 2) = true := by rw [hk, hc]; rfl
  have HK : Hid (k = 2) := Lib.hid (by rw [hk, hc]; rfl)
  obtain ⟨sv, hsv⟩ : ∃ sv, sv = str v2 := ⟨_, rfl⟩
  rw [← hsv] at H2
  have HSV := Lib.hid hsv
  clear hk hr2 hsv
  have HE : Hid (∀ wx, Rd wx base g l a5 e5 → Calls Try.prog 38 #[.pointer (some ⟨g, 0, none⟩)] wx fun x w' => x = .returned (.int .i64 e5) ∧ wx = w') := Lib.hid fun wx hx => rd_err base g l a5 e5 wx hx
  have HT := Lib.hid hT
  clear hr1 hT hc A1 ha hm
  have B2 := Blk.new w (vcells zv) 27
  have R0 := h.later ((Below.refl w.heap.size w).alloc (Nat.le_refl _) (.cells (vcells zv).toArray 27))
  have G0 := World.grownBy_alloc w (.cells (vcells zv).toArray 27) (some g)
  have hu := Try.underlying27
  clear h
  have hne : (some g : Option Nat) ≠ some w.heap.size := by simp; omega
  obtain ⟨be, hbe⟩ : ∃ b, b = (e5 != 0) := ⟨_, rfl⟩
  have ke : (e5 != 0) = be := hbe.symm
  clear hbe
  go_enter Try.func97, Try.ntmps97
  go_wp2_with fail
  refine (H1.out _ R0).mono ?_
  rintro x w2 ⟨rfl, R2, G2⟩
  replace B2 := B2.kept G2 hne
  have GG := G0.trans G2
  clear R0 G0 G2
  have B3 := Blk.new w2 (vcells zv) 27
  have T3 := B3.there 0 3 (Nat.le_refl _)
  have S3 := B3.wholeT (ds := (vcells (k, 0, ⟨#[]⟩))) rfl
  have LE3 : Le w2 (World.setCells (w2.alloc (.cells (vcells zv).toArray 27)) w2.heap.size 0 (vcells (k, 0, ⟨#[]⟩))) := below_sets (Nat.le_refl _) _ 0 ((Below.refl w2.heap.size w2).alloc (Nat.le_refl _) _)
  have O3 : ((vcells (k, 0, ⟨#[]⟩))).toArray.all (·.oneCell') = true := vcells_all _
  have hsz := GG.size
  clear B3
  obtain ⟨g3, hg3⟩ : ∃ z, z = w2.heap.size := ⟨_, rfl⟩
  have hb2 := B2.lt
  rw [← hg3] at T3 S3 LE3 hsz hb2
  have HG3 := Lib.hid hg3
  clear hg3
  go_wp2_with (first
    | (rw [← HG3.out]
       refine wpList_store_mid rfl 27 (.tmp 3) (.tmp 6) rfl g3 0 ((vcells (k, 0, ⟨#[]⟩))).toArray rfl rfl T3 info_val O3 ?_
       simp only [Act.put]
       generalize hw3 : World.setCells _ g3 0 ((vcells (k, 0, ⟨#[]⟩))).toArray.toList = w3
       have S3' : Blk w3 g3 (vcells (k, 0, ⟨#[]⟩)) := hw3 ▸ S3
       have LE3' : Le w2 w3 := hw3 ▸ LE3
       have q1 : w3.cell? ⟨g3, 0, none⟩ = some (.int .i64 k) := S3'.cell rfl
       clear hw3 T3 S3 LE3 O3)
    | fail)
  have hne3 : (some g : Option Nat) ≠ some g3 := by simp; omega
  have R3 := R2.later LE3'
  replace B2 := B2.later LE3'
  replace GG := GG.trans (grown_none LE3' _)
  clear R2 LE3' q1
  refine (H2.out _ R3).mono ?_
  rintro x w5 ⟨rfl, R5, G5⟩
  replace B2 := B2.kept G5 hne
  have S5 := S3'.kept G5 hne3
  replace GG := GG.trans G5
  have f1 := S5.frozen 2
  have q1 : w5.cell? ⟨g3, 2, none⟩ = some (.string ⟨#[]⟩) := S5.cell rfl
  have S8 : Blk (w5.setCell ⟨g3, 2, none⟩ (.string sv)) g3 (vcells (k, 0, sv)) := S5.set 2 _
  have R8 := R5.other (grown_set1 w5 g3 2 (.string sv)) (by omega)
  have B8 := B2.setOther (b := g3) 2 (.string sv) (by omega)
  have G8 := grown_new GG (grown_set1 w5 g3 2 (.string sv)) hsz
  clear R3 R5 G5 B2 S3' S5 GG
  go_wp2_with fail
  obtain ⟨w8, hw8⟩ : ∃ z, z = w5.setCell ⟨g3, 2, none⟩ (.string sv) := ⟨_, rfl⟩
  rw [← hw8] at S8 R8 B8 G8 ⊢
  clear hw8 f1 q1
  refine (HE.out _ R8).mono ?_
  rintro x w9 ⟨rfl, rfl⟩
  cases be
  · have T8 := B8.there 0 3 (Nat.le_refl _)
    have FIN := B8.wholeT (ds := (vcells (k, 0, sv))) rfl
    have O8 : ((vcells (k, 0, sv))).toArray.all (·.oneCell') = true := vcells_all _
    have RG := S8.range 0 (vcells (k, 0, sv)) rfl
    have R9 := R8.other (grown_sets4 w.heap.size (vcells (k, 0, sv)) 0 w8) (by omega)
    have G9 := grown_new G8 (grown_sets4 w.heap.size (vcells (k, 0, sv)) 0 w8) (by omega)
    clear S8 R8 B8 G8
    go_wp2_with (first
      | (refine wpList_load_mid rfl 27 (.tmp 3) rfl g3 0 rfl (vcells (k, 0, sv)) _ RG hu rfl info_val ?_)
      | (refine wpList_store_mid rfl 27 (.tmp 2) (.tmp 23) rfl w.heap.size 0 ((vcells (k, 0, sv))).toArray rfl rfl T8 info_val O8 ?_)
      | fail)
    exact bodyPost_ret (v := .agg ((vcells (k, 0, sv))).toArray) (tok_results (q := 2) rfl _ _ w.heap.size _ _ rfl FIN hu rfl info_val) rfl ⟨by rw [HT.out, valEnd_yes ke]; rw [HK.out, HSV.out], by rw [HT.out, valEnd_yes ke]; exact R9, G9⟩
  · have T8 := B8.there 0 3 (Nat.le_refl _)
    have FIN := B8.wholeT (ds := (vcells zv)) rfl
    have O8 : ((vcells zv)).toArray.all (·.oneCell') = true := vcells_all _
    have RG := S8.range 0 (vcells (k, 0, sv)) rfl
    have R9 := R8.other (grown_sets4 w.heap.size (vcells zv) 0 w8) (by omega)
    have G9 := grown_new G8 (grown_sets4 w.heap.size (vcells zv) 0 w8) (by omega)
    clear S8 R8 B8 G8
    go_wp2_with (first
      | (refine wpList_load_mid rfl 27 (.tmp 3) rfl g3 0 rfl (vcells (k, 0, sv)) _ RG hu rfl info_val ?_)
      | (refine wpList_store_mid rfl 27 (.tmp 2) (.tmp 22) rfl w.heap.size 0 ((vcells zv)).toArray rfl rfl T8 info_val O8 ?_)
      | fail)
    exact bodyPost_ret (v := .agg ((vcells zv)).toArray) (tok_results (q := 2) rfl _ _ w.heap.size _ _ rfl FIN hu rfl info_val) rfl ⟨by rw [HT.out, valEnd_no ke], by rw [HT.out, valEnd_no ke]; exact R9, G9⟩
theorem rd_value (base g : Nat) (l : List UInt8) (a : Nat) (e : Int) (w : World) (h : Rd w base g l a e) (ha : a ≤ l.length) (hm : l.length ≤ 2000) :
    Calls Try.prog 97 #[.pointer (some ⟨g, 0, none⟩)] w fun x w' => x = .returned (.agg (vcells (valOut l a e).1).toArray) ∧ Rd w' base g l (valOut l a e).2.1 (valOut l a e).2.2 ∧ w.grownBy w' (some g) := by
  by_cases c1 : (numOut l a e 2).1 = 1
  · exact rd_value1 base g l a e w h ha hm c1 _ (by unfold valOut; rw [if_pos c1])
  · by_cases c2 : (numOut l a e 2).1 = 2
    · exact rd_value2 base g l a e w h ha hm c2 _ (by unfold valOut; rw [if_neg c1, if_pos c2])
    · exact rd_value0 base g l a e w h ha hm ⟨c1, c2⟩ _ (by unfold valOut; rw [if_neg c1, if_neg c2])
end Go.Proofs.Ytgpbglmlakildaa

/- Cards and patches as they are read of bytes: a number above 0; a field: the program's. -/
namespace Go.Proofs.Ytgpbglmlakildaa
set_option linter.unusedVariables false
open Go Go.RowKit OctM

def abvOut (l : List UInt8) (a : Nat) (e m : Int) : Nat × Nat × Int :=
  ((numOut l a e m).1, (numOut l a e m).2.1, if (numOut l a e m).1 = 0 then failOut (numOut l a e m).2.2 3 else (numOut l a e m).2.2)
theorem abvOut_at (l : List UInt8) (a : Nat) (e m : Int) (h : a ≤ l.length) : (abvOut l a e m).2.1 ≤ l.length := numOut_at l a e m h
/-- What is read of bytes for a field: the value, how far, the error. -/
def fldOut (must : Bool) (l : List UInt8) (a : Nat) (e : Int) : V3 × Nat × Int :=
  ((valOut l a e).1, (valOut l a e).2.1, if must = true ∧ (valOut l a e).1.1 = 0 then failOut (valOut l a e).2.2 3 else (valOut l a e).2.2)
theorem fldOut_at (must : Bool) (l : List UInt8) (a : Nat) (e : Int) (h : a ≤ l.length) : (fldOut must l a e).2.1 ≤ l.length := valOut_at l a e h
/-- Block g, block c, and block g again are written; all else is new. -/
def Tri (g c : Nat) (w w' : World) : Prop := ∃ w1 w2, w.grownBy w1 (some g) ∧ w1.grownBy w2 (some c) ∧ w2.grownBy w' (some g)
section
variable {g c : Nat} {w w' : World}
theorem Tri.new {W0 : World} (t : Tri g c w w') (h : W0.grownBy w (some g)) (hc : W0.heap.size ≤ c) : W0.grownBy w' (some g) := by
  obtain ⟨w1, w2, t1, t2, t3⟩ := t
  exact (grown_new (h.trans t1) t2 hc).trans t3
theorem Own.other {base m : Nat} {e : TypeId} {v : Value} {xs : List Value} (h : Own w base e v xs) (hg : w.grownBy w' (some m)) (hm : m < base) : Own w' base e v xs := by
  refine h.kept hg ?_
  by_cases h0 : v.ownBlock = none
  · exact .inl h0
  · right
    intro he
    have := (h.lt _ he).1
    omega
theorem Tri.own {base : Nat} {e : TypeId} {v : Value} {xs : List Value} (t : Tri g c w w') (h : Own w base e v xs) (h1 : g < base) (h2 : c < base) : Own w' base e v xs := by
  obtain ⟨w1, w2, t1, t2, t3⟩ := t
  exact ((h.other t1 h1).other t2 h2).other t3 h1
theorem Tri.blk {b : Nat} {cs : List Value} (t : Tri g c w w') (h : Blk w b cs) (h1 : g ≠ b) (h2 : c ≠ b) : Blk w' b cs := by
  obtain ⟨w1, w2, t1, t2, t3⟩ := t
  exact ((h.kept t1 (by simpa using h1)).kept t2 (by simpa using h2)).kept t3 (by simpa using h1)
theorem Tri.size (t : Tri g c w w') : w.heap.size ≤ w'.heap.size := by
  obtain ⟨w1, w2, t1, t2, t3⟩ := t
  exact Nat.le_trans t1.size (Nat.le_trans t2.size t3.size)
theorem Blk.putField {pre : List Value} {f : List V3} (h : Blk w g (pre ++ fcells f)) (i : Nat) (hi : i < f.length) (v : V3) :
    Blk (w.setCells g (pre.length + i * 3) (vcells v)) g (pre ++ fcells (f.set i v)) := by
  have hl : (fcells f).length = 3 * f.length := fcells_len f
  have h2 := h.sets (vcells v) (pre.length + i * 3) (by rw [List.length_append, hl]; show _ + 3 ≤ _; omega)
  have e : (pre ++ fcells f).take (pre.length + i * 3) ++ vcells v ++ (pre ++ fcells f).drop (pre.length + i * 3 + (vcells v).length) = pre ++ fcells (f.set i v) := by
    rw [show (vcells v).length = 3 from rfl, List.take_append, List.drop_append, Nat.add_sub_cancel_left]
    rw [List.take_of_length_le (by omega), List.drop_eq_nil_of_le (by omega), List.nil_append, show pre.length + i * 3 + 3 - pre.length = 3 * i + 3 by omega, Nat.mul_comm i 3]
    rw [List.append_assoc, List.append_assoc, ← List.append_assoc ((fcells f).take _), fcells_set _ _ _ hi]
  rw [e] at h2
  exact h2
end

set_option maxRecDepth 100000 in
set_option maxHeartbeats 1600000 in
theorem rd_above (base g : Nat) (l : List UInt8) (a : Nat) (e m : Int) (w : World) (h : Rd w base g l a e) (ha : a ≤ l.length) (hm : l.length ≤ 2000) :
    Calls Try.prog 109 #[.pointer (some ⟨g, 0, none⟩), .int .i64 m] w fun x w' => x = .returned (.int .i64 ((abvOut l a e m).1 : Nat)) ∧ Rd w' base g l (abvOut l a e m).2.1 (abvOut l a e m).2.2 ∧ w.grownBy w' (some g) := by
  have H1 := Lib.hid (rd_num base g l a e m w h ha (by omega))
  unfold abvOut
  simp only
  obtain ⟨r1, hr1⟩ : ∃ r, r = numOut l a e m := ⟨_, rfl⟩
  rw [← hr1] at H1 ⊢
  obtain ⟨v1, a1, e1⟩ := r1
  simp only at H1 ⊢
  have HF := Lib.hid (fun wx (hx : Rd wx base g l a1 e1) => rd_fail base g l a1 e1 3 wx hx)
  clear hr1
  by_cases c1 : v1 = 0
  · subst c1
    rw [if_pos rfl]
    have HK := Lib.hid (show ((0 : Nat) : Int) = 0 from rfl)
    obtain ⟨k, hk⟩ : ∃ k : Int, k = ((0 : Nat) : Int) := ⟨_, rfl⟩
    rw [← hk] at H1 ⊢
    have t1 : (k == 0) = true := by rw [hk]; rfl
    clear hk
    go_enter Try.func109, Try.ntmps109
    go_wp2_with fail
    refine H1.out.mono ?_
    rintro x w1 ⟨rfl, R1, G1⟩
    go_wp2_with fail
    refine (HF.out _ R1).mono ?_
    rintro x w2 ⟨rfl, R2, G2⟩
    go_wp2_with fail
    go_ret
    exact ⟨rfl, R2, G1.trans G2⟩
  · rw [if_neg c1]
    obtain ⟨k, hk⟩ : ∃ k : Int, k = (v1 : Int) := ⟨_, rfl⟩
    have t1 : (k == 0) = false := by rw [hk]; simpa using c1
    rw [← hk] at H1 ⊢
    clear hk c1
    go_enter Try.func109, Try.ntmps109
    go_wp2_with fail
    refine H1.out.mono ?_
    rintro x w1 ⟨rfl, R1, G1⟩
    go_wp2_with fail
    go_ret
    exact ⟨rfl, R1, G1⟩
set_option maxRecDepth 100000 in
set_option maxHeartbeats 3200000 in
theorem rd_patchfield (base g bx bc i : Nat) (hi : i < 8) (l : List UInt8) (a : Nat) (e : Int) (pm lab : Int) (f : List V3) (hf : f.length = 8) (w : World) (h : Rd w base g l a e) (ha : a ≤ l.length) (hm : l.length ≤ 2000)
    (hB : Blk w bc (pcells pm lab f)) (hX : Blk w bx [.pointer (some ⟨g, 0, none⟩)]) (h1 : g < bx) (h2 : g < bc) (h3 : bx ≠ bc) :
    Calls Try.prog 110 #[.int .i64 i, .pointer (some ⟨bx, 0, none⟩), .pointer (some ⟨bc, 0, none⟩)] w fun x w' => x = .returned (.bool ((fldOut false l a e).2.2 == 0)) ∧ Rd w' base g l (fldOut false l a e).2.1 (fldOut false l a e).2.2 ∧
      Blk w' bc (pcells pm lab (f.set i (fldOut false l a e).1)) ∧ Tri g bc w w' := by
  have HV := Lib.hid (rd_value base g l a e w h ha hm)
  unfold fldOut
  simp only
  obtain ⟨r1, hr1⟩ : ∃ r, r = valOut l a e := ⟨_, rfl⟩
  rw [← hr1] at HV ⊢
  obtain ⟨⟨v0, v1, v2⟩, a1, e1⟩ := r1
  simp only at HV ⊢
  have HF := Lib.hid (fun wx (hx : Rd wx base g l a1 e1) => rd_fail base g l a1 e1 3 wx hx)
  have HE := Lib.hid (fun wx e2 (hx : Rd wx base g l a1 e2) => rd_err base g l a1 e2 wx hx)
  have ne1 : (some g : Option Nat) ≠ some bc := by simp; omega
  have ne2 : (some g : Option Nat) ≠ some bx := by simp; omega
  have x0 : w.cell? ⟨bx, 0, none⟩ = some (.pointer (some ⟨g, 0, none⟩)) := hX.cell rfl
  have i0 : (0 : Int) ≤ (i : Int) := by omega
  have i8 : (i : Int) < 8 := by omega
  have HFL := Lib.hid hf
  have HI := Lib.hid hi
  have HFO := Lib.hid (show ∀ ee : Int, failOut ee 3 = if ee = 0 then 3 else ee from fun _ => rfl)
  clear hr1 h ha hm hf hi
  rw [if_neg (by simp)]
  go_enter Try.func110, Try.ntmps110
  go_wp2_with fail
  refine HV.out.mono ?_
  rintro x w1 ⟨rfl, R1, G1⟩
  have B1 := hB.kept G1 ne1
  have X1 := hX.kept G1 ne2
  have T1 := B1.there (2 + i * 3) 3 (by rw [pcells_len _ _ HFL.out]; have := HI.out; omega)
  have S1 := Blk.putField (pre := [.int .u32 pm, .int .u32 lab]) B1 i (by rw [HFL.out]; exact HI.out) (v0, v1, v2)
  have XS1 := X1.setsOther (b := bc) (Ne.symm h3) (vcells (v0, v1, v2)) (2 + i * 3)
  have RS1 := R1.other (grown_sets4 bc (vcells (v0, v1, v2)) (2 + i * 3) w1) h2
  have GS1 := grown_sets4 bc (vcells (v0, v1, v2)) (2 + i * 3) w1
  have O1 : (vcells (v0, v1, v2)).toArray.all (·.oneCell') = true := vcells_all _
  have x1 : w1.cell? ⟨bx, 0, none⟩ = some (.pointer (some ⟨g, 0, none⟩)) := X1.cell rfl
  clear B1 X1 R1 x0 hB hX
  go_wp2_with (first
    | (refine wpList_store_mid rfl 27 (.tmp 9) (.tmp 7) rfl bc (2 + i * 3) (vcells (v0, v1, v2)).toArray rfl rfl T1 info_val O1 ?_
       simp only [Act.put]
       generalize hw3 : World.setCells _ bc (2 + i * 3) (vcells (v0, v1, v2)).toArray.toList = w3
       have S3 : Blk w3 bc ([.int .u32 pm, .int .u32 lab] ++ fcells (f.set i (v0, v1, v2))) := hw3 ▸ S1
       have X3 : Blk w3 bx [.pointer (some ⟨g, 0, none⟩)] := hw3 ▸ XS1
       have R3 : Rd w3 base g l a1 e1 := hw3 ▸ RS1
       have G3 : w1.grownBy w3 (some bc) := hw3 ▸ GS1
       have q1 : w3.cell? ⟨bc, 2 + i * 3, none⟩ = some (.int .i64 v0) := by
         have hs := (Blk.field S3 2 i rfl (by rw [List.length_set, HFL.out]; exact HI.out)).1
         simpa using hs
       have x3 : w3.cell? ⟨bx, 0, none⟩ = some (.pointer (some ⟨g, 0, none⟩)) := X3.cell rfl
       clear hw3 S1 XS1 RS1 GS1 T1 x1 O1)
    | fail)
  refine (HE.out _ _ R3).mono ?_
  rintro x w4 ⟨rfl, rfl⟩
  go_wp2_with fail
  go_ret
  exact ⟨rfl, R3, S3, w1, w3, G1, G3, World.grownBy.refl _ _⟩
end Go.Proofs.Ytgpbglmlakildaa
