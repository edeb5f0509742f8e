/- What any text is read as: both Reads. -/
import Derived.Test.YtgdidamjgaegkaaDoorQuoN
import Derived.Test.YtgdidamjgaegkaaDoorQuoE
namespace Go.Proofs.YtgdidamjgaegkaaDoor
set_option linter.unusedVariables false
open Go Go.RowKit BitM MskM ValM

open Classical in
/-- What a text is read as. -/
noncomputable def vrd (t : ByteArray) : V3 × Bool := if h : ∃ a : V3, vchk a = true ∧ vshow a = t.data.toList then (Classical.choose h, true) else (zval, false)
theorem str_self (t : ByteArray) {l : List UInt8} (h : l = t.data.toList) : t = str l := by
  subst h
  apply ByteArray.ext
  apply Array.ext'
  rfl
theorem vread_any (t : ByteArray) (w : World) (hx : t.size ≤ 1000) (ht : Tab w) : Calls Tryd.prog 45 #[.string t] w fun e w' => e = .returned (.tuple #[.agg (vcells (vrd t).1).toArray, .bool (vrd t).2]) ∧ Below w.heap.size w w' := by
  unfold vrd
  by_cases h : ∃ a : V3, vchk a = true ∧ vshow a = t.data.toList
  · rw [dif_pos h]
    obtain ⟨h1, h2⟩ := Classical.choose_spec h
    exact vread_back (Classical.choose h) t w h1 ht (str_self t h2)
  · rw [dif_neg h]
    exact vread_no t w hx ht fun a ha e => h ⟨a, ha, e⟩
theorem pint_head (c : UInt8) (l : List UInt8) (m : Int) (h : dig c = false) : (pint (c :: l) m).2 = false := by
  unfold pint
  rw [if_pos (Or.inr (Or.inr (Or.inr (Or.inl (by rw [List.all_cons, h, Bool.false_and])))))]
theorem rread_any (t : ByteArray) (w : World) (hx : t.size ≤ 1000) : Calls Tryd.prog 46 #[.string t] w fun e w' => e = .returned (.tuple #[.agg (vcells (vrd t).1).toArray, .bool (vrd t).2]) ∧ Below w.heap.size w w' := by
  have hsz : t.data.toList.length = t.size := by simp
  unfold vrd
  by_cases h : ∃ a : V3, vchk a = true ∧ vshow a = t.data.toList
  · rw [dif_pos h]
    obtain ⟨h1, h2⟩ := Classical.choose_spec h
    generalize Classical.choose h = a at *
    obtain ⟨k, n, s⟩ := a
    rcases vshow_of k n s h1 with ⟨e, rfl, rfl, rfl⟩ | ⟨e, rfl, h3, h4, rfl⟩ | ⟨e, rfl, rfl⟩
    · have e2 : t.data.toList = [45] := h2.symm.trans e
      refine rread_3y t w (by rw [e2]; exact pint_head 45 [] _ (by decide)) ?_ (str_self t h2)
      rintro ⟨h5, _⟩
      rw [← hsz, e2] at h5
      simp at h5
    · have e2 : t.data.toList = Lib.itoa n := h2.symm.trans e
      exact rread_1y t w n (by rw [e2]; exact pint_itoa n h3 h4) (str_self t h2)
    · have e2 : t.data.toList = quo s.data.toList := h2.symm.trans e
      have hl : s.data.toList.length = s.size := by simp
      have h5 := (vchk_txt 0 s h1).2
      have hq := quo_size e2
      have hq4 := qug_len s.data.toList
      obtain ⟨l0, e0, _⟩ := byte_of (t := t) (i := 0) (by rw [List.drop_zero, e2, quo_head])
      refine rread_2y t w s (by rw [e2, quo_head]; exact pint_head 34 _ _ (by decide)) (fun wx => ?_) (by omega) e0 (by omega) (str_self t h2)
      refine (ropen_any t wx hx).mono ?_
      rintro e w' ⟨⟨p, rfl, hp⟩, hb⟩
      rw [hp _ e2]
      exact ⟨rfl, hb⟩
  · rw [dif_neg h]
    have hn : NoVal t := fun a ha e => h ⟨a, ha, e⟩
    cases hok : (pint t.data.toList 1099511627776).2
    · by_cases hc : 1 < t.size ∧ (∃ h : 0 < t.size, t[0] = 34) ∧ t.size ≤ 98
      · obtain ⟨c1, ⟨c0, c2⟩, c3⟩ := hc
        have hne : t.data.toList ≠ [] := by intro e; rw [e] at hsz; simp at hsz; omega
        refine rread_2n t w hok (fun wx => ?_) c1 c2 c3 (fun p => not_show (2, 0, p) hn hne)
        refine (ropen_any t wx hx).mono ?_
        rintro e w' ⟨⟨p, rfl, _⟩, hb⟩
        exact ⟨⟨p, rfl⟩, hb⟩
      · refine rread_3n t w hok hc ?_
        rw [bne_iff_ne]
        intro e
        have e1 : ∀ l : List UInt8, (str l).toList = l := fun l => by rw [ByteArray.toList_eq]; rfl
        rw [e1, ByteArray.toList_eq] at e
        exact hn zval (by decide +kernel) e
    · have hne : t.data.toList ≠ [] := by intro e; rw [e] at hok; simp [pint] at hok
      exact rread_1n t w _ (by rw [← hok]) (not_show _ hn hne)
end Go.Proofs.YtgdidamjgaegkaaDoor
