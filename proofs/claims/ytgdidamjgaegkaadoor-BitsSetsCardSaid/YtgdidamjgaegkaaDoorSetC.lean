/- The document's text of any number; what a number's text is read as, up to any number. -/
import Derived.Test.YtgdidamjgaegkaaDoorQuoC
namespace Go.Proofs.YtgdidamjgaegkaaDoor
set_option linter.unusedVariables false
open Go Go.RowKit BitM MskM

theorem itoa_min : str (Lib.itoa (-9223372036854775808)) = ⟨#[45, 57, 50, 50, 51, 51, 55, 50, 48, 51, 54, 56, 53, 52, 55, 55, 53, 56, 48, 56]⟩ := by decide +kernel
theorem rtens_any (n : Int) (w : World) (h0 : -9223372036854775808 ≤ n) (h1 : n ≤ 9223372036854775807) :
    Calls Tryd.prog 31 #[.int .i64 n] w fun e w' => e = .returned (.string (str (Lib.itoa n))) ∧ Below w.heap.size w w' := by
  by_cases hn : 0 ≤ n
  · exact rtens_small n w hn h1
  · by_cases hm : n = -9223372036854775808
    · subst hm
      rw [itoa_min]
      go_enter Tryd.func31, Tryd.ntmps31
      go_wp2_with fail
      go_ret
      exact ⟨rfl, Below.refl _ _⟩
    · obtain ⟨k, hk⟩ : ∃ k : Nat, -n = (k : Int) := ⟨(-n).toNat, by omega⟩
      have hd : decide (n < 0) = true := by simp; omega
      have he : (n == -9223372036854775808) = false := by rw [beq_eq_false_iff_ne]; exact hm
      have hu : (Lib.decDigits k).length ≤ 19 := dec_small (by omega)
      have HE : Hid (str (Lib.itoa n) = ⟨#[45]⟩ ++ str (Lib.decDigits k)) := Lib.hid (by
        have : Lib.itoa n = [45] ++ Lib.decDigits k := by
          rw [show n = -(k : Int) by omega, Lib.itoa_neg k (by omega)]; rfl
        rw [this, ← str_append]; rfl)
      have HR := Lib.hid (fun wx : World => (show Calls Tryd.prog 31 #[.int .i64 (-n)] wx fun e w' => e = .returned (.string (str (Lib.decDigits k))) ∧ Below wx.heap.size wx w' from by
        rw [hk]; exact rtens_nat k k wx (Nat.le_refl _) (by omega)))
      have hz : (str (Lib.decDigits k)).size ≤ 19 := by rw [str_size]; exact hu
      obtain ⟨u, hu2⟩ : ∃ u, u = str (Lib.decDigits k) := ⟨_, rfl⟩
      rw [← hu2] at HR hz HE
      obtain ⟨r, hr⟩ : ∃ r, r = str (Lib.itoa n) := ⟨_, rfl⟩
      rw [← hr] at HE ⊢
      have hlo : n < 0 := by omega
      have hhi : -9223372036854775807 ≤ n := by omega
      clear hu2 hr hk hu hn hm
      go_enter Tryd.func31, Tryd.ntmps31
      go_wp2_with fail
      refine (HR.out _).mono ?_
      rintro e w1 ⟨rfl, hb⟩
      go_wp2_with fail
      go_ret
      exact ⟨by rw [HE.out]; rfl, hb⟩

/-- What a number's text is read as, up to any number. -/
theorem pint_most (n most : Int) (h0 : 0 ≤ n) (hn : n ≤ 1099511627776) : pint (Lib.itoa n) most = if n ≤ most then (n, true) else (0, false) := by
  have h := pint_itoa n h0 hn
  unfold pint at h ⊢
  split at h
  · cases h
  · rename_i hc
    injection h with h1 h2
    simp only [not_or] at hc
    obtain ⟨c1, c2, c3, c4, c5⟩ := hc
    by_cases hm : n ≤ most
    · rw [if_pos hm, if_neg, h1]
      rintro (e | e | e | e | e)
      · exact c1 e
      · exact c2 e
      · exact c3 e
      · exact c4 e
      · omega
    · rw [if_neg hm, if_pos]
      exact .inr (.inr (.inr (.inr (by omega))))
theorem pint_neg (n most : Int) (h0 : n < 0) : pint (Lib.itoa n) most = (0, false) := by
  have e : Lib.itoa n = 45 :: Lib.decDigits (-n).toNat := by
    have h := Lib.itoa_neg (-n).toNat (by omega)
    rw [show -(((-n).toNat : Nat) : Int) = n by omega] at h
    exact h
  rw [e]
  unfold pint
  rw [if_pos (.inr (.inr (.inr (.inl (by rw [List.all_cons, show dig 45 = false by decide, Bool.false_and])))))]
theorem pint_large (n most : Int) (h0 : 1099511627776 < n) : pint (Lib.itoa n) most = (0, false) := by
  obtain ⟨k, rfl⟩ := Int.eq_ofNat_of_zero_le (show 0 ≤ n by omega)
  have hi : Lib.itoa (k : Int) = Lib.decDigits k := by unfold Lib.itoa; rw [if_neg (by omega), Int.toNat_natCast]
  rw [hi]
  unfold pint
  by_cases hc : Lib.decDigits k = [] ∨ 14 ≤ (Lib.decDigits k).length ∨ (1 < (Lib.decDigits k).length ∧ (Lib.decDigits k).headD 0 = 48) ∨ (Lib.decDigits k).all dig = false ∨ min most 1099511627776 < (num (Lib.decDigits k) : Int)
  · rw [if_pos hc]
  · exfalso
    simp only [not_or] at hc
    have h5 := hc.2.2.2.2
    rw [(dec_facts k k (Nat.le_refl _)).1] at h5
    omega
end Go.Proofs.YtgdidamjgaegkaaDoor
