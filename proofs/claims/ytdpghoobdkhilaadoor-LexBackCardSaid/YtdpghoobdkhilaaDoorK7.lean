/- Runs of bytes of a kind, where a text in quotes ends, signs: what both sides return. -/
import Derived.Test.YtdpghoobdkhilaaDoorK1
import Derived.Test.YtdpghoobdkhilaaDoorK6
import Derived.Test.YtdpghoobdkhilaaDoorK3
import Derived.LaidSub
import Derived.Test.YtdpghoobdkhilaaDoorK4
namespace Go.Proofs.YtdpghoobdkhilaaDoor
set_option linter.unusedVariables false
open Go Go.RowKit BitM MskM ValM LexM

theorem letter_any (c : UInt8) (w : World) : Calls Tryd.prog 18 #[.int .u8 (c.toNat : Int)] w fun e w' => e = .returned (.bool (letterB c)) ∧ w = w' := by
  obtain ⟨R, hR⟩ : ∃ R, R = letterB c := ⟨_, rfl⟩
  rw [← hR]
  unfold letterB at hR
  have h256 := UInt8.toNat_lt c
  obtain ⟨m, hm⟩ : ∃ m, m = c.toNat := ⟨_, rfl⟩
  rw [← hm] at hR h256 ⊢
  clear hm
  by_cases h1 : 97 ≤ m
  · have b1 : (97 : Int) ≤ (m : Int) := by omega
    by_cases h2 : m ≤ 122
    · have b2 : (m : Int) ≤ 122 := by omega
      have e : R = true := by rw [hR]; simp [h1, h2]
      clear hR h1 h2
      subst e
      go_enter Tryd.func18, Tryd.ntmps18
      go_wp2_with fail
      go_ret
      exact ⟨rfl, rfl⟩
    · have b2 : ¬ (m : Int) ≤ 122 := by omega
      have e : R = false := by rw [hR]; simp [h2]
      clear hR h1 h2
      subst e
      go_enter Tryd.func18, Tryd.ntmps18
      go_wp2_with fail
      go_ret
      exact ⟨rfl, rfl⟩
  · have b1 : ¬ (97 : Int) ≤ (m : Int) := by omega
    have e : R = false := by rw [hR]; simp [h1]
    clear hR h1
    subst e
    go_enter Tryd.func18, Tryd.ntmps18
    go_wp2_with fail
    go_ret
    exact ⟨rfl, rfl⟩
theorem digit_any (c : UInt8) (w : World) : Calls Tryd.prog 19 #[.int .u8 (c.toNat : Int)] w fun e w' => e = .returned (.bool (dig c)) ∧ w = w' := by
  obtain ⟨R, hR⟩ : ∃ R, R = dig c := ⟨_, rfl⟩
  rw [← hR]
  unfold dig at hR
  have h256 := UInt8.toNat_lt c
  obtain ⟨m, hm⟩ : ∃ m, m = c.toNat := ⟨_, rfl⟩
  rw [← hm] at hR h256 ⊢
  clear hm
  by_cases h1 : 48 ≤ m
  · have b1 : (48 : Int) ≤ (m : Int) := by omega
    by_cases h2 : m ≤ 57
    · have b2 : (m : Int) ≤ 57 := by omega
      have e : R = true := by rw [hR]; simp [h1, h2]
      clear hR h1 h2
      subst e
      go_enter Tryd.func19, Tryd.ntmps19
      go_wp2_with fail
      go_ret
      exact ⟨rfl, rfl⟩
    · have b2 : ¬ (m : Int) ≤ 57 := by omega
      have e : R = false := by rw [hR]; simp [h2]
      clear hR h1 h2
      subst e
      go_enter Tryd.func19, Tryd.ntmps19
      go_wp2_with fail
      go_ret
      exact ⟨rfl, rfl⟩
  · have b1 : ¬ (48 : Int) ≤ (m : Int) := by omega
    have e : R = false := by rw [hR]; simp [h1]
    clear hR h1
    subst e
    go_enter Tryd.func19, Tryd.ntmps19
    go_wp2_with fail
    go_ret
    exact ⟨rfl, rfl⟩
theorem blank_any (c : UInt8) (w : World) : Calls Tryd.prog 12 #[.int .u8 (c.toNat : Int)] w fun e w' => e = .returned (.bool (blankB c)) ∧ w = w' := by
  obtain ⟨R, hR⟩ : ∃ R, R = blankB c := ⟨_, rfl⟩
  rw [← hR]
  unfold blankB at hR
  obtain ⟨m, hm⟩ : ∃ m, m = c.toNat := ⟨_, rfl⟩
  rw [← hm] at hR ⊢
  clear hm
  by_cases h1 : m = 32
  · have b1 : ((m : Int) == 32) = true := by rw [h1]; rfl
    have e : R = true := by rw [hR]; simp [h1]
    clear hR h1
    subst e
    go_enter Tryd.func12, Tryd.ntmps12
    go_wp2_with fail
    go_ret
    exact ⟨rfl, rfl⟩
  · have b1 : ((m : Int) == 32) = false := by simp; omega
    have e : R = false := by rw [hR]; simp [h1]
    clear hR h1
    subst e
    go_enter Tryd.func12, Tryd.ntmps12
    go_wp2_with fail
    go_ret
    exact ⟨rfl, rfl⟩
set_option maxRecDepth 100000 in
theorem run_letter (s : ByteArray) (k : Nat) (w : World) (hk : k ≤ s.size) (hs : s.size ≤ 1000) : Calls Tryd.prog 11 #[.string s, .int .i64 (k : Int), .func (.func 18) #[] #[]] w fun e w' => e = .returned (.int .i64 (lrun letterB s.data.toList k : Nat)) ∧ w = w' := by
  have hsz : s.data.toList.length = s.size := by simp
  obtain ⟨R, hR⟩ : ∃ R, R = lrun letterB s.data.toList k := ⟨_, rfl⟩
  rw [← hR]
  have HR := Lib.hid hR
  have HSZ := Lib.hid hsz
  clear hR hsz
  go_enter Tryd.func11, Tryd.ntmps11
  go_wp2_with fail
  go_loop [1] (fun i => ∃ j : Nat, j ≤ s.size ∧ i = .int .i64 j ∧ Hid (lrun letterB s.data.toList j = R)) (fun i => s.size - (intOf i).toNat)
  case atStart => exact ⟨k, hk, rfl, Lib.hid HR.out.symm⟩
  case round =>
    obtain ⟨j, hj, rfl, HJ⟩ := hrel
    by_cases hlt : j < s.size
    · have d1 : decide ((j : Int) < (s.size : Int)) = true := by simp; omega
      have HL : Hid (s.data.toList[j]'(by rw [HSZ.out]; exact hlt) = s[j]'hlt) := Lib.hid rfl
      have HC := Lib.hid (letter_any (s[j]'hlt) w)
      cases hp : letterB (s[j]'hlt)
      · have HE : Hid (R = j) := Lib.hid (by rw [← HJ.out]; exact lrun_no _ _ j (by rw [HSZ.out]; exact hlt) (by rw [HL.out]; exact hp))
        rw [hp] at HC
        clear hp
        go_wp2_with fail
        refine HC.out.mono ?_
        rintro e w1 ⟨rfl, rfl⟩
        go_wp2_with fail
        go_ret
        exact ⟨by rw [HE.out]; rfl, rfl⟩
      · have HE : Hid (lrun letterB s.data.toList (j + 1) = R) := Lib.hid (by rw [← HJ.out]; exact (lrun_yes _ _ j (by rw [HSZ.out]; exact hlt) (by rw [HL.out]; exact hp)).symm)
        rw [hp] at HC
        clear hp
        go_wp2_with fail
        refine HC.out.mono ?_
        rintro e w1 ⟨rfl, rfl⟩
        go_wp2_with fail
        go_round
        case rel => exact ⟨j + 1, by omega, by go_num, HE⟩
        case measure => simp [intOf]; omega
    · have d1 : decide ((j : Int) < (s.size : Int)) = false := by simp; omega
      have HE : Hid (R = j) := Lib.hid (by rw [← HJ.out]; exact lrun_end _ _ j (by rw [HSZ.out]; omega))
      go_wp2_with fail
      go_ret
      exact ⟨by rw [HE.out]; rfl, rfl⟩
set_option maxRecDepth 100000 in
theorem run_digit (s : ByteArray) (k : Nat) (w : World) (hk : k ≤ s.size) (hs : s.size ≤ 1000) : Calls Tryd.prog 11 #[.string s, .int .i64 (k : Int), .func (.func 19) #[] #[]] w fun e w' => e = .returned (.int .i64 (lrun dig s.data.toList k : Nat)) ∧ w = w' := by
  have hsz : s.data.toList.length = s.size := by simp
  obtain ⟨R, hR⟩ : ∃ R, R = lrun dig s.data.toList k := ⟨_, rfl⟩
  rw [← hR]
  have HR := Lib.hid hR
  have HSZ := Lib.hid hsz
  clear hR hsz
  go_enter Tryd.func11, Tryd.ntmps11
  go_wp2_with fail
  go_loop [1] (fun i => ∃ j : Nat, j ≤ s.size ∧ i = .int .i64 j ∧ Hid (lrun dig s.data.toList j = R)) (fun i => s.size - (intOf i).toNat)
  case atStart => exact ⟨k, hk, rfl, Lib.hid HR.out.symm⟩
  case round =>
    obtain ⟨j, hj, rfl, HJ⟩ := hrel
    by_cases hlt : j < s.size
    · have d1 : decide ((j : Int) < (s.size : Int)) = true := by simp; omega
      have HL : Hid (s.data.toList[j]'(by rw [HSZ.out]; exact hlt) = s[j]'hlt) := Lib.hid rfl
      have HC := Lib.hid (digit_any (s[j]'hlt) w)
      cases hp : dig (s[j]'hlt)
      · have HE : Hid (R = j) := Lib.hid (by rw [← HJ.out]; exact lrun_no _ _ j (by rw [HSZ.out]; exact hlt) (by rw [HL.out]; exact hp))
        rw [hp] at HC
        clear hp
        go_wp2_with fail
        refine HC.out.mono ?_
        rintro e w1 ⟨rfl, rfl⟩
        go_wp2_with fail
        go_ret
        exact ⟨by rw [HE.out]; rfl, rfl⟩
      · have HE : Hid (lrun dig s.data.toList (j + 1) = R) := Lib.hid (by rw [← HJ.out]; exact (lrun_yes _ _ j (by rw [HSZ.out]; exact hlt) (by rw [HL.out]; exact hp)).symm)
        rw [hp] at HC
        clear hp
        go_wp2_with fail
        refine HC.out.mono ?_
        rintro e w1 ⟨rfl, rfl⟩
        go_wp2_with fail
        go_round
        case rel => exact ⟨j + 1, by omega, by go_num, HE⟩
        case measure => simp [intOf]; omega
    · have d1 : decide ((j : Int) < (s.size : Int)) = false := by simp; omega
      have HE : Hid (R = j) := Lib.hid (by rw [← HJ.out]; exact lrun_end _ _ j (by rw [HSZ.out]; omega))
      go_wp2_with fail
      go_ret
      exact ⟨by rw [HE.out]; rfl, rfl⟩
set_option maxRecDepth 100000 in
theorem run_blank (s : ByteArray) (k : Nat) (w : World) (hk : k ≤ s.size) (hs : s.size ≤ 1000) : Calls Tryd.prog 11 #[.string s, .int .i64 (k : Int), .func (.func 12) #[] #[]] w fun e w' => e = .returned (.int .i64 (lrun blankB s.data.toList k : Nat)) ∧ w = w' := by
  have hsz : s.data.toList.length = s.size := by simp
  obtain ⟨R, hR⟩ : ∃ R, R = lrun blankB s.data.toList k := ⟨_, rfl⟩
  rw [← hR]
  have HR := Lib.hid hR
  have HSZ := Lib.hid hsz
  clear hR hsz
  go_enter Tryd.func11, Tryd.ntmps11
  go_wp2_with fail
  go_loop [1] (fun i => ∃ j : Nat, j ≤ s.size ∧ i = .int .i64 j ∧ Hid (lrun blankB s.data.toList j = R)) (fun i => s.size - (intOf i).toNat)
  case atStart => exact ⟨k, hk, rfl, Lib.hid HR.out.symm⟩
  case round =>
    obtain ⟨j, hj, rfl, HJ⟩ := hrel
    by_cases hlt : j < s.size
    · have d1 : decide ((j : Int) < (s.size : Int)) = true := by simp; omega
      have HL : Hid (s.data.toList[j]'(by rw [HSZ.out]; exact hlt) = s[j]'hlt) := Lib.hid rfl
      have HC := Lib.hid (blank_any (s[j]'hlt) w)
      cases hp : blankB (s[j]'hlt)
      · have HE : Hid (R = j) := Lib.hid (by rw [← HJ.out]; exact lrun_no _ _ j (by rw [HSZ.out]; exact hlt) (by rw [HL.out]; exact hp))
        rw [hp] at HC
        clear hp
        go_wp2_with fail
        refine HC.out.mono ?_
        rintro e w1 ⟨rfl, rfl⟩
        go_wp2_with fail
        go_ret
        exact ⟨by rw [HE.out]; rfl, rfl⟩
      · have HE : Hid (lrun blankB s.data.toList (j + 1) = R) := Lib.hid (by rw [← HJ.out]; exact (lrun_yes _ _ j (by rw [HSZ.out]; exact hlt) (by rw [HL.out]; exact hp)).symm)
        rw [hp] at HC
        clear hp
        go_wp2_with fail
        refine HC.out.mono ?_
        rintro e w1 ⟨rfl, rfl⟩
        go_wp2_with fail
        go_round
        case rel => exact ⟨j + 1, by omega, by go_num, HE⟩
        case measure => simp [intOf]; omega
    · have d1 : decide ((j : Int) < (s.size : Int)) = false := by simp; omega
      have HE : Hid (R = j) := Lib.hid (by rw [← HJ.out]; exact lrun_end _ _ j (by rw [HSZ.out]; omega))
      go_wp2_with fail
      go_ret
      exact ⟨by rw [HE.out]; rfl, rfl⟩
set_option maxRecDepth 100000 in
theorem rrun_letter (s : ByteArray) (k : Nat) (w : World) (hk : k ≤ s.size) (hs : s.size ≤ 1000) : Calls Tryd.prog 24 #[.string s, .int .i64 (k : Int), .int .u8 97, .int .u8 122] w fun e w' => e = .returned (.int .i64 (lrun letterB s.data.toList k : Nat)) ∧ w = w' := by
  have hsz : s.data.toList.length = s.size := by simp
  obtain ⟨R, hR⟩ : ∃ R, R = lrun letterB s.data.toList k := ⟨_, rfl⟩
  rw [← hR]
  have HR := Lib.hid hR
  have HSZ := Lib.hid hsz
  clear hR hsz
  go_enter Tryd.func24, Tryd.ntmps24
  go_wp2_with fail
  go_loop [1] (fun i => ∃ j : Nat, j ≤ s.size ∧ i = .int .i64 j ∧ Hid (lrun letterB s.data.toList j = R)) (fun i => s.size - (intOf i).toNat)
  case atStart => exact ⟨k, hk, rfl, Lib.hid HR.out.symm⟩
  case round =>
    obtain ⟨j, hj, rfl, HJ⟩ := hrel
    by_cases hlt : j < s.size
    · have d1 : decide ((j : Int) < (s.size : Int)) = true := by simp; omega
      have HL : Hid (s.data.toList[j]'(by rw [HSZ.out]; exact hlt) = s[j]'hlt) := Lib.hid rfl
      have HB : Hid (letterB (s[j]'hlt) = (decide (97 ≤ (s[j]'hlt).toNat) && decide ((s[j]'hlt).toNat ≤ 122))) := Lib.hid rfl
      have HN : Hid (letterB (s[j]'hlt) = false → R = j) := Lib.hid (fun hp => by rw [← HJ.out]; exact lrun_no _ _ j (by rw [HSZ.out]; exact hlt) (by rw [HL.out]; exact hp))
      have HY : Hid (letterB (s[j]'hlt) = true → lrun letterB s.data.toList (j + 1) = R) := Lib.hid (fun hp => by rw [← HJ.out]; exact (lrun_yes _ _ j (by rw [HSZ.out]; exact hlt) (by rw [HL.out]; exact hp)).symm)
      by_cases h1 : 97 ≤ (s[j]'hlt).toNat
      · have b1 : (97 : Int) ≤ ((s[j]'hlt).toNat : Int) := by omega
        by_cases h2 : (s[j]'hlt).toNat ≤ 122
        · have b2 : ((s[j]'hlt).toNat : Int) ≤ 122 := by omega
          have HE := Lib.hid (HY.out (by rw [HB.out]; simp [h1, h2]))
          clear h1 h2
          go_wp2_with fail
          go_round
          case rel => exact ⟨j + 1, by omega, by go_num, HE⟩
          case measure => simp [intOf]; omega
        · have b2 : ¬ ((s[j]'hlt).toNat : Int) ≤ 122 := by omega
          have HE := Lib.hid (HN.out (by rw [HB.out]; simp [h2]))
          clear h1 h2
          go_wp2_with fail
          go_ret
          exact ⟨by rw [HE.out]; rfl, rfl⟩
      · have b1 : ¬ (97 : Int) ≤ ((s[j]'hlt).toNat : Int) := by omega
        have HE := Lib.hid (HN.out (by rw [HB.out]; simp [h1]))
        clear h1
        go_wp2_with fail
        go_ret
        exact ⟨by rw [HE.out]; rfl, rfl⟩
    · have d1 : decide ((j : Int) < (s.size : Int)) = false := by simp; omega
      have HE : Hid (R = j) := Lib.hid (by rw [← HJ.out]; exact lrun_end _ _ j (by rw [HSZ.out]; omega))
      go_wp2_with fail
      go_ret
      exact ⟨by rw [HE.out]; rfl, rfl⟩
set_option maxRecDepth 100000 in
theorem rrun_digit (s : ByteArray) (k : Nat) (w : World) (hk : k ≤ s.size) (hs : s.size ≤ 1000) : Calls Tryd.prog 24 #[.string s, .int .i64 (k : Int), .int .u8 48, .int .u8 57] w fun e w' => e = .returned (.int .i64 (lrun dig s.data.toList k : Nat)) ∧ w = w' := by
  have hsz : s.data.toList.length = s.size := by simp
  obtain ⟨R, hR⟩ : ∃ R, R = lrun dig s.data.toList k := ⟨_, rfl⟩
  rw [← hR]
  have HR := Lib.hid hR
  have HSZ := Lib.hid hsz
  clear hR hsz
  go_enter Tryd.func24, Tryd.ntmps24
  go_wp2_with fail
  go_loop [1] (fun i => ∃ j : Nat, j ≤ s.size ∧ i = .int .i64 j ∧ Hid (lrun dig s.data.toList j = R)) (fun i => s.size - (intOf i).toNat)
  case atStart => exact ⟨k, hk, rfl, Lib.hid HR.out.symm⟩
  case round =>
    obtain ⟨j, hj, rfl, HJ⟩ := hrel
    by_cases hlt : j < s.size
    · have d1 : decide ((j : Int) < (s.size : Int)) = true := by simp; omega
      have HL : Hid (s.data.toList[j]'(by rw [HSZ.out]; exact hlt) = s[j]'hlt) := Lib.hid rfl
      have HB : Hid (dig (s[j]'hlt) = (decide (48 ≤ (s[j]'hlt).toNat) && decide ((s[j]'hlt).toNat ≤ 57))) := Lib.hid rfl
      have HN : Hid (dig (s[j]'hlt) = false → R = j) := Lib.hid (fun hp => by rw [← HJ.out]; exact lrun_no _ _ j (by rw [HSZ.out]; exact hlt) (by rw [HL.out]; exact hp))
      have HY : Hid (dig (s[j]'hlt) = true → lrun dig s.data.toList (j + 1) = R) := Lib.hid (fun hp => by rw [← HJ.out]; exact (lrun_yes _ _ j (by rw [HSZ.out]; exact hlt) (by rw [HL.out]; exact hp)).symm)
      by_cases h1 : 48 ≤ (s[j]'hlt).toNat
      · have b1 : (48 : Int) ≤ ((s[j]'hlt).toNat : Int) := by omega
        by_cases h2 : (s[j]'hlt).toNat ≤ 57
        · have b2 : ((s[j]'hlt).toNat : Int) ≤ 57 := by omega
          have HE := Lib.hid (HY.out (by rw [HB.out]; simp [h1, h2]))
          clear h1 h2
          go_wp2_with fail
          go_round
          case rel => exact ⟨j + 1, by omega, by go_num, HE⟩
          case measure => simp [intOf]; omega
        · have b2 : ¬ ((s[j]'hlt).toNat : Int) ≤ 57 := by omega
          have HE := Lib.hid (HN.out (by rw [HB.out]; simp [h2]))
          clear h1 h2
          go_wp2_with fail
          go_ret
          exact ⟨by rw [HE.out]; rfl, rfl⟩
      · have b1 : ¬ (48 : Int) ≤ ((s[j]'hlt).toNat : Int) := by omega
        have HE := Lib.hid (HN.out (by rw [HB.out]; simp [h1]))
        clear h1
        go_wp2_with fail
        go_ret
        exact ⟨by rw [HE.out]; rfl, rfl⟩
    · have d1 : decide ((j : Int) < (s.size : Int)) = false := by simp; omega
      have HE : Hid (R = j) := Lib.hid (by rw [← HJ.out]; exact lrun_end _ _ j (by rw [HSZ.out]; omega))
      go_wp2_with fail
      go_ret
      exact ⟨by rw [HE.out]; rfl, rfl⟩
set_option maxRecDepth 100000 in
theorem lquote_any (s : ByteArray) (k : Nat) (w : World) (hk : k ≤ s.size) (hs : s.size ≤ 1000) : Calls Tryd.prog 21 #[.string s, .int .i64 (k : Int)] w fun e w' => e = .returned (.int .i64 (qend s.data.toList k : Nat)) ∧ w = w' := by
  have hsz : s.data.toList.length = s.size := by simp
  obtain ⟨R, hR⟩ : ∃ R, R = qend s.data.toList k := ⟨_, rfl⟩
  rw [← hR]
  have HR := Lib.hid hR
  have HSZ := Lib.hid hsz
  clear hR hsz
  go_enter Tryd.func21, Tryd.ntmps21
  go_wp2_with fail
  go_loop [1] (fun i => ∃ j : Nat, j ≤ s.size + 1 ∧ i = .int .i64 j ∧ Hid (qgo (s.data.toList.drop j) j = R)) (fun i => s.size + 1 - (intOf i).toNat)
  case atStart => exact ⟨k + 1, by omega, by go_num, Lib.hid (by rw [HR.out]; rfl)⟩
  case round =>
    obtain ⟨j, hj, rfl, HJ⟩ := hrel
    by_cases hlt : j < s.size
    · have d1 : decide ((j : Int) < (s.size : Int)) = true := by simp; omega
      have HL : Hid (s.data.toList.drop j = s[j]'hlt :: s.data.toList.drop (j + 1)) := Lib.hid (List.drop_eq_getElem_cons (by rw [HSZ.out]; exact hlt))
      by_cases h1 : (s[j]'hlt).toNat = 34
      · have b1 : (((s[j]'hlt).toNat : Int) == 34) = true := by rw [h1]; rfl
        have b2 : (((s[j]'hlt).toNat : Int) == 92) = false := by rw [h1]; rfl
        have HE : Hid (R = j + 1) := Lib.hid (by rw [← HJ.out, HL.out, show s[j]'hlt = 34 from UInt8.toNat_inj.1 h1, qgo_34])
        clear h1
        go_wp2_with fail
        go_ret
        exact ⟨by rw [HE.out]; rfl, rfl⟩
      · have b1 : (((s[j]'hlt).toNat : Int) == 34) = false := by simp; omega
        have n1 : s[j]'hlt ≠ 34 := fun e => h1 (by rw [e]; rfl)
        by_cases h2 : (s[j]'hlt).toNat = 92
        · have b2 : (((s[j]'hlt).toNat : Int) == 92) = true := by rw [h2]; rfl
          have HE : Hid (qgo (s.data.toList.drop (j + 2)) (j + 2) = R) := Lib.hid (by rw [← HJ.out, HL.out, show s[j]'hlt = 92 from UInt8.toNat_inj.1 h2, qgo_92, List.drop_drop])
          clear h1 h2 n1
          go_wp2_with fail
          go_round
          case rel => exact ⟨j + 2, by omega, by go_num, HE⟩
          case measure => simp [intOf]; omega
        · have b2 : (((s[j]'hlt).toNat : Int) == 92) = false := by simp; omega
          have n2 : s[j]'hlt ≠ 92 := fun e => h2 (by rw [e]; rfl)
          have HE : Hid (qgo (s.data.toList.drop (j + 1)) (j + 1) = R) := Lib.hid (by rw [← HJ.out, HL.out, qgo_else _ _ _ n1 n2])
          clear h1 h2 n1 n2
          go_wp2_with fail
          go_round
          case rel => exact ⟨j + 1, by omega, by go_num, HE⟩
          case measure => simp [intOf]; omega
    · have d1 : decide ((j : Int) < (s.size : Int)) = false := by simp; omega
      have HE : Hid (R = 0) := Lib.hid (by rw [← HJ.out, List.drop_eq_nil_of_le (by rw [HSZ.out]; omega)]; rfl)
      go_wp2_with fail
      go_ret
      exact ⟨by rw [HE.out]; rfl, rfl⟩
set_option maxRecDepth 100000 in
theorem lrquote_any (s : ByteArray) (k : Nat) (w : World) (hk : k ≤ s.size) (hs : s.size ≤ 1000) : Calls Tryd.prog 26 #[.string s, .int .i64 (k : Int)] w fun e w' => e = .returned (.int .i64 (qend s.data.toList k : Nat)) ∧ w = w' := by
  have hsz : s.data.toList.length = s.size := by simp
  obtain ⟨R, hR⟩ : ∃ R, R = qend s.data.toList k := ⟨_, rfl⟩
  rw [← hR]
  have HR := Lib.hid hR
  have HSZ := Lib.hid hsz
  clear hR hsz
  go_enter Tryd.func26, Tryd.ntmps26
  go_wp2_with fail
  go_loop [5] (fun i => ∃ j : Nat, j ≤ s.size + 1 ∧ i = .int .i64 j ∧ Hid (qgo (s.data.toList.drop j) j = R)) (fun i => s.size + 1 - (intOf i).toNat)
  case atStart => exact ⟨k + 1, by omega, by go_num, Lib.hid (by rw [HR.out]; rfl)⟩
  case round =>
    obtain ⟨j, hj, rfl, HJ⟩ := hrel
    by_cases hlt : j < s.size
    · have d1 : decide ((j : Int) < (s.size : Int)) = true := by simp; omega
      have HL : Hid (s.data.toList.drop j = s[j]'hlt :: s.data.toList.drop (j + 1)) := Lib.hid (List.drop_eq_getElem_cons (by rw [HSZ.out]; exact hlt))
      by_cases h1 : (s[j]'hlt).toNat = 34
      · have b1 : (((s[j]'hlt).toNat : Int) == 34) = true := by rw [h1]; rfl
        have b2 : (((s[j]'hlt).toNat : Int) == 92) = false := by rw [h1]; rfl
        have HE : Hid (R = j + 1) := Lib.hid (by rw [← HJ.out, HL.out, show s[j]'hlt = 34 from UInt8.toNat_inj.1 h1, qgo_34])
        clear h1
        go_wp2_with fail
        go_ret
        exact ⟨by rw [HE.out]; rfl, rfl⟩
      · have b1 : (((s[j]'hlt).toNat : Int) == 34) = false := by simp; omega
        have n1 : s[j]'hlt ≠ 34 := fun e => h1 (by rw [e]; rfl)
        by_cases h2 : (s[j]'hlt).toNat = 92
        · have b2 : (((s[j]'hlt).toNat : Int) == 92) = true := by rw [h2]; rfl
          have HE : Hid (qgo (s.data.toList.drop (j + 2)) (j + 2) = R) := Lib.hid (by rw [← HJ.out, HL.out, show s[j]'hlt = 92 from UInt8.toNat_inj.1 h2, qgo_92, List.drop_drop])
          clear h1 h2 n1
          go_wp2_with fail
          go_round
          case rel => exact ⟨j + 2, by omega, by go_num, HE⟩
          case measure => simp [intOf]; omega
        · have b2 : (((s[j]'hlt).toNat : Int) == 92) = false := by simp; omega
          have n2 : s[j]'hlt ≠ 92 := fun e => h2 (by rw [e]; rfl)
          have HE : Hid (qgo (s.data.toList.drop (j + 1)) (j + 1) = R) := Lib.hid (by rw [← HJ.out, HL.out, qgo_else _ _ _ n1 n2])
          clear h1 h2 n1 n2
          go_wp2_with fail
          go_round
          case rel => exact ⟨j + 1, by omega, by go_num, HE⟩
          case measure => simp [intOf]; omega
    · have d1 : decide ((j : Int) < (s.size : Int)) = false := by simp; omega
      have HE : Hid (R = 0) := Lib.hid (by rw [← HJ.out, List.drop_eq_nil_of_le (by rw [HSZ.out]; omega)]; rfl)
      go_wp2_with fail
      go_ret
      exact ⟨by rw [HE.out]; rfl, rfl⟩
theorem rsign_any (c : UInt8) (w : World) : Calls Tryd.prog 28 #[.int .u8 (c.toNat : Int)] w fun e w' => e = .returned (.bool (signB c)) ∧ w = w' := by
  obtain ⟨R, hR⟩ : ∃ R, R = signB c := ⟨_, rfl⟩
  rw [← hR]
  unfold signB at hR
  obtain ⟨m, hm⟩ : ∃ m, m = c.toNat := ⟨_, rfl⟩
  rw [← hm] at hR ⊢
  clear hm
  by_cases h0 : m = 40
  · have e : R = true := by rw [hR]; simp [h0]
    have b0 : ((m : Int) == 40) = true := by rw [h0]; rfl
    clear hR h0
    subst e
    go_enter Tryd.func28, Tryd.ntmps28
    go_wp2_with fail
    go_ret
    exact ⟨rfl, rfl⟩
  have b0 : ((m : Int) == 40) = false := by simp; omega
  by_cases h1 : m = 41
  · have e : R = true := by rw [hR]; simp [h1]
    have b1 : ((m : Int) == 41) = true := by rw [h1]; rfl
    clear hR h0 h1
    subst e
    go_enter Tryd.func28, Tryd.ntmps28
    go_wp2_with fail
    go_ret
    exact ⟨rfl, rfl⟩
  have b1 : ((m : Int) == 41) = false := by simp; omega
  by_cases h2 : m = 61
  · have e : R = true := by rw [hR]; simp [h2]
    have b2 : ((m : Int) == 61) = true := by rw [h2]; rfl
    clear hR h0 h1 h2
    subst e
    go_enter Tryd.func28, Tryd.ntmps28
    go_wp2_with fail
    go_ret
    exact ⟨rfl, rfl⟩
  have b2 : ((m : Int) == 61) = false := by simp; omega
  by_cases h3 : m = 60
  · have e : R = true := by rw [hR]; simp [h3]
    have b3 : ((m : Int) == 60) = true := by rw [h3]; rfl
    clear hR h0 h1 h2 h3
    subst e
    go_enter Tryd.func28, Tryd.ntmps28
    go_wp2_with fail
    go_ret
    exact ⟨rfl, rfl⟩
  have b3 : ((m : Int) == 60) = false := by simp; omega
  by_cases h4 : m = 62
  · have e : R = true := by rw [hR]; simp [h4]
    have b4 : ((m : Int) == 62) = true := by rw [h4]; rfl
    clear hR h0 h1 h2 h3 h4
    subst e
    go_enter Tryd.func28, Tryd.ntmps28
    go_wp2_with fail
    go_ret
    exact ⟨rfl, rfl⟩
  have b4 : ((m : Int) == 62) = false := by simp; omega
  by_cases h5 : m = 126
  · have e : R = true := by rw [hR]; simp [h5]
    have b5 : ((m : Int) == 126) = true := by rw [h5]; rfl
    clear hR h0 h1 h2 h3 h4 h5
    subst e
    go_enter Tryd.func28, Tryd.ntmps28
    go_wp2_with fail
    go_ret
    exact ⟨rfl, rfl⟩
  have b5 : ((m : Int) == 126) = false := by simp; omega
  have e : R = false := by rw [hR]; simp [h0, h1, h2, h3, h4, h5]
  clear hR h0 h1 h2 h3 h4 h5
  subst e
  go_enter Tryd.func28, Tryd.ntmps28
  go_wp2_with fail
  go_ret
  exact ⟨rfl, rfl⟩
end Go.Proofs.YtdpghoobdkhilaaDoor

/- Go's table of powers of ten, as the rows' condition lays it. -/
namespace Go.Proofs.YtdpghoobdkhilaaDoor
open Go

theorem pow_at : ∃ g : Nat, Tryd.prog.globalNamed "internal/strconv.uint64pow10" = some g ∧ (Tryd.prog.globals[g]?).map (·.type) = some 73 :=
  ⟨1, by kernel_rfl, by kernel_rfl⟩
theorem tab_of {W : World} (h : laidMetH Tryd.prog Rows.lexWordsRow.laid W) : Tab W := by
  have h1 : laidMet Tryd.prog Rows.lexWordsRow.laid W := h
  have h2 := h1.filter (fun x => x.1 == "internal/strconv.uint64pow10")
  have e : (Rows.lexWordsRow.laid.filter fun x => x.1 == "internal/strconv.uint64pow10") = [("internal/strconv.uint64pow10", Lib.tabData .u64 Lib.pow10Tab)] := by kernel_rfl
  rw [e] at h2
  obtain ⟨g, hg, hty⟩ := pow_at
  exact Lib.tabIs_of_head hg hty Tryd.underlying73 Tryd.underlying66 (by kernel_rfl) (by kernel_rfl) h2
end Go.Proofs.YtdpghoobdkhilaaDoor

/- The word at a place: what both sides return. -/
namespace Go.Proofs.YtdpghoobdkhilaaDoor
set_option linter.unusedVariables false
set_option linter.unusedSimpArgs false
open Go Go.RowKit BitM MskM ValM LexM

theorem info_lw : (Tryd.prog.info? 34).map (·.size) = some 4 := by kernel_rfl
theorem info_rlw : (Tryd.prog.info? 38).map (·.size) = some 4 := by kernel_rfl
theorem wcells4_one (x : Wd) : (wcells4 x).toArray.all (·.oneCell') = true := by
  refine all_oneCell_toArray fun v hv => ?_
  simp only [wcells4, List.mem_cons, List.not_mem_nil, or_false] at hv
  rcases hv with rfl | rfl | rfl | rfl <;> rfl
def zw : Wd := (0, 0, 0, ⟨#[]⟩)
theorem two_words (w : World) (T : TypeId) (k : Nat) : ∃ W, W = (w.alloc (.cells (wcells4 zw).toArray T)).alloc (.cells (wcells4 zw).toArray T) ∧ W.there (w.heap.size + 1) 0 4 ∧ W.there w.heap.size 0 4 ∧
    Blk (W.setCells (w.heap.size + 1) 0 (wcells4 (0, 0, (k : Int), ⟨#[]⟩))) w.heap.size (wcells4 zw) ∧ Blk (W.setCells (w.heap.size + 1) 0 (wcells4 (0, 0, (k : Int), ⟨#[]⟩))) (w.heap.size + 1) (wcells4 (0, 0, (k : Int), ⟨#[]⟩)) ∧
    Below w.heap.size w (W.setCells (w.heap.size + 1) 0 (wcells4 (0, 0, (k : Int), ⟨#[]⟩))) ∧ (W.setCells (w.heap.size + 1) 0 (wcells4 (0, 0, (k : Int), ⟨#[]⟩))).heap.size = w.heap.size + 2 := by
  have h1 := Blk.new (w.alloc (.cells (wcells4 zw).toArray T)) (wcells4 zw) T
  have hs1 : (w.alloc (.cells (wcells4 zw).toArray T)).heap.size = w.heap.size + 1 := by simp
  rw [hs1] at h1
  have h0 := (Blk.new w (wcells4 zw) T).alloc (.cells (wcells4 zw).toArray T)
  refine ⟨_, rfl, h1.there 0 4 (Nat.le_refl _), h0.there 0 4 (Nat.le_refl _), Blk.setsOther (by omega) _ 0 h0, h1.sets _ 0 (Nat.le_refl _), below_sets (by omega) _ 0 (((Below.refl w.heap.size w).alloc (Nat.le_refl _) _).alloc (by simp) _), ?_⟩
  rw [size_sets]; simp
theorem results_blk_tmp2 {P : Program} {fn : Func} {p p2 q : Tmp} {ty : TypeId} (h : fn.results = #[.cell q ty, .tmp p, .tmp p2]) (tmps : Array Value) (w : World) (g : Nat) (cs : List Value) (d : TypeDesc) (v v2 : Value) (hp : tmps.getD p undef = v) (hp2 : tmps.getD p2 undef = v2)
    (hq : tmps.getD q undef = .pointer (some ⟨g, 0, none⟩)) (hB : Blk w g cs)
    (hu : P.underlying ty = some d) (hd : (match d with | .struct _ | .array _ _ => true | _ => false) = true) (hi : (P.info? ty).map (·.size) = some cs.length) :
    (results fn tmps).run P w = .ok (.tuple #[.agg cs.toArray, v, v2]) w := by
  obtain ⟨t, hB⟩ := hB
  subst hp hp2
  have hq' : tmps[q]?.getD undef = .pointer (some ⟨g, 0, none⟩) := by simpa using hq
  simp [results, h, hq', asAddr, run_loadVar_row w g t ty cs.toArray (0, 0) d hB hu hd (by simpa using hi)]

/-- Signs, as the program asks for them. -/
theorem sign_idx (c : UInt8) : decide ((0 : Int) ≤ Lib.indexByte (⟨#[40, 41, 61, 60, 62, 126]⟩ : ByteArray).data.toList ((c.toNat : Int)).toNat.toUInt8) = signB c := by
  have key : ∀ m : Fin 256, decide ((0 : Int) ≤ Lib.indexByte (⟨#[40, 41, 61, 60, 62, 126]⟩ : ByteArray).data.toList (((m.val : Nat) : Int)).toNat.toUInt8) = decide (m.val = 40 ∨ m.val = 41 ∨ m.val = 61 ∨ m.val = 60 ∨ m.val = 62 ∨ m.val = 126) := by decide +kernel
  exact key ⟨c.toNat, c.toNat_lt⟩
/-- A single quote is no value's text. -/
theorem vrd_quote (p : ByteArray) (h : p.data.toList = [34]) : (vrd p).2 = false := by
  cases hv : (vrd p).2 with
  | false => rfl
  | true =>
    exfalso
    unfold vrd at hv
    by_cases hx : ∃ a : V3, vchk a = true ∧ vshow a = p.data.toList
    · obtain ⟨⟨k, n, s⟩, h1, h2⟩ := hx
      rw [h] at h2
      rcases vshow_of k n s h1 with ⟨e, _⟩ | ⟨e, _, h3, h4, _⟩ | ⟨e, rfl, rfl⟩
      · rw [e] at h2; cases h2
      · rw [e] at h2; exact absurd h2 (itoa_not h3 (by decide))
      · rw [e, quo_head] at h2; simp at h2
    · rw [dif_neg hx] at hv
      cases hv
theorem max_nat (a b : Nat) (h : b ≤ a) : max (a : Int) (b : Int) = (a : Int) := by omega
set_option maxRecDepth 100000 in
set_option maxHeartbeats 3200000 in
theorem word_letter (t : ByteArray) (k : Nat) (w : World) (hk : k < t.size) (hs : t.size ≤ 1000) (hc : letterB (t[k]) = true) (e : Nat) (he : e = lrun letterB t.data.toList k) (hke : k < e) (het : e ≤ t.size) :
    Calls Tryd.prog 13 #[.string t, .int .i64 (k : Int)] w fun x w' => x = .returned (.tuple #[.agg (wcells4 (1, 0, (k : Int), t.extract k e)).toArray, .int .i64 (e : Int), .bool true]) ∧ Below w.heap.size w w' := by
  have HL := Lib.hid (fun wx : World => letter_any (t[k]) wx)
  have HR := Lib.hid (fun wx : World => run_letter t k wx (by omega) hs)
  rw [hc] at HL
  rw [← he] at HR
  have hu := Tryd.underlying34
  obtain ⟨W, hW, TH7, TH4, F4, F7, B7, z7⟩ := two_words w 34 k
  subst hW
  have ON7 := wcells4_one (0, 0, (k : Int), ⟨#[]⟩)
  have i1 : (0 : Int) ≤ (k : Int) := by omega
  have i2 : (k : Int) ≤ (e : Int) := by omega
  have i3 : (e : Int) ≤ (t.size : Int) := by omega
  clear he hc
  go_enter Tryd.func13, Tryd.ntmps13
  go_wp2_with (first
    | (refine wpList_store_mid rfl 34 (.tmp 7) (.tmp 13) rfl (w.heap.size + 1) 0 (wcells4 (0, 0, (k : Int), ⟨#[]⟩)).toArray rfl rfl TH7 info_lw ON7 ?_
       simp only [Act.put]
       generalize hw6 : World.setCells _ (w.heap.size + 1) 0 (wcells4 (0, 0, (k : Int), ⟨#[]⟩)).toArray.toList = w6
       have F41 : Blk w6 w.heap.size (wcells4 zw) := hw6 ▸ F4
       have F71 : Blk w6 (w.heap.size + 1) (wcells4 (0, 0, (k : Int), ⟨#[]⟩)) := hw6 ▸ F7
       have B71 : Below w.heap.size w w6 := hw6 ▸ B7
       have z71 : w6.heap.size = w.heap.size + 2 := hw6 ▸ z7
       clear hw6 TH7 TH4 F4 F7 B7 z7)
    | fail)
  refine (HL.out _).mono ?_
  rintro x w1 ⟨rfl, rfl⟩
  go_wp2_with fail
  refine (HR.out _).mono ?_
  rintro x w1 ⟨rfl, rfl⟩
  have c0 := F71.cell (j := 0) rfl
  have f0 := F71.frozen 0
  have c3 := F71.cell (j := 3) rfl
  have f3 := F71.frozen 3
  go_wp2_with fail
  go_region
  have F8 := (F71.set 0 (.int .i64 1)).set 3 (.string (t.extract k e))
  have b8 := (B71.setCell (p := ⟨w.heap.size + 1, 0, none⟩) (by simp) (.int .i64 1)).setCell (p := ⟨w.heap.size + 1, 3, none⟩) (by simp) (.string (t.extract k e))
  have F9 := (F41.setOther 0 (.int .i64 1) (b := w.heap.size + 1) (by omega)).setOther 3 (.string (t.extract k e)) (b := w.heap.size + 1) (by omega)
  clear c0 c3 f0 f3
  generalize hw9 : World.drew _ = w9
  have F72 : Blk w9 (w.heap.size + 1) (wcells4 (1, 0, (k : Int), t.extract k e)) := hw9 ▸ F8.drew
  have F42 : Blk w9 w.heap.size (wcells4 zw) := hw9 ▸ F9.drew
  have B72 : Below w.heap.size w w9 := hw9 ▸ b8.drew
  clear hw9 F8 F9 b8
  have R9 := F72.range 0 (wcells4 (1, 0, (k : Int), t.extract k e)) (by simp [wcells4])
  have TH9 := F42.there 0 4 (Nat.le_refl _)
  have FE : Blk (World.setCells w9 w.heap.size 0 (wcells4 (1, 0, (k : Int), t.extract k e))) w.heap.size (wcells4 (1, 0, (k : Int), t.extract k e)) := by simpa [wcells4, zw] using F42.sets (wcells4 (1, 0, (k : Int), t.extract k e)) 0 (Nat.le_refl _)
  have BE := below_sets (b := w.heap.size) (Nat.le_refl _) (wcells4 (1, 0, (k : Int), t.extract k e)) 0 B72
  have ONX := wcells4_one (1, 0, (k : Int), t.extract k e)
  clear F72 F42 B72
  go_wp2_with (first
    | (refine wpList_load_mid rfl 34 (.tmp 7) rfl (w.heap.size + 1) 0 rfl (wcells4 (1, 0, (k : Int), t.extract k e)) _ R9 hu rfl info_lw ?_)
    | (refine wpList_store_mid rfl 34 (.tmp 4) (.tmp 76) rfl w.heap.size 0 (wcells4 (1, 0, (k : Int), t.extract k e)).toArray rfl rfl TH9 info_lw ONX ?_
       simp only [Act.put]
       generalize hwE : World.setCells _ w.heap.size 0 (wcells4 (1, 0, (k : Int), t.extract k e)).toArray.toList = wE
       have FE1 : Blk wE w.heap.size (wcells4 (1, 0, (k : Int), t.extract k e)) := hwE ▸ FE
       have BE1 : Below w.heap.size w wE := hwE ▸ BE
       clear hwE TH9 R9 FE BE)
    | fail)
  exact bodyPost_ret (v := .tuple #[.agg (wcells4 (1, 0, (k : Int), t.extract k e)).toArray, .int .i64 (e : Int), .bool true]) (results_blk_tmp2 (p := 5) (p2 := 6) (q := 4) rfl _ _ w.heap.size (wcells4 (1, 0, (k : Int), t.extract k e)) _ _ _ rfl rfl rfl FE1 hu rfl info_lw) rfl ⟨rfl, BE1⟩
set_option maxRecDepth 100000 in
set_option maxHeartbeats 3200000 in
theorem word_digit (t : ByteArray) (k : Nat) (w : World) (hk : k < t.size) (hs : t.size ≤ 1000) (hc : letterB (t[k]) = false) (hd : dig (t[k]) = true) (e : Nat) (he : e = lrun dig t.data.toList k) (hke : k < e) (het : e ≤ t.size) (n : Int) (ok : Bool) (hn : pint (t.extract k e).data.toList 1099511627776 = (n, ok)) :
    Calls Tryd.prog 13 #[.string t, .int .i64 (k : Int)] w fun x w' => x = .returned (.tuple #[.agg (wcells4 (2, n, (k : Int), ⟨#[]⟩)).toArray, .int .i64 (e : Int), .bool ok]) ∧ Below w.heap.size w w' := by
  have HL := Lib.hid (fun wx : World => letter_any (t[k]) wx)
  have HD := Lib.hid (fun wx : World => digit_any (t[k]) wx)
  have HR := Lib.hid (fun wx : World => run_digit t k wx (by omega) hs)
  have HI := Lib.hid (fun wx : World => int_any (t.extract k e) 1099511627776 wx)
  rw [hc] at HL
  rw [hd] at HD
  rw [← he] at HR
  rw [hn] at HI
  have hu := Tryd.underlying34
  obtain ⟨W, hW, TH7, TH4, F4, F7, B7, z7⟩ := two_words w 34 k
  subst hW
  have ON7 := wcells4_one (0, 0, (k : Int), ⟨#[]⟩)
  have i1 : (0 : Int) ≤ (k : Int) := by omega
  have i2 : (k : Int) ≤ (e : Int) := by omega
  have i3 : (e : Int) ≤ (t.size : Int) := by omega
  clear he hc hd hn
  go_enter Tryd.func13, Tryd.ntmps13
  go_wp2_with (first
    | (refine wpList_store_mid rfl 34 (.tmp 7) (.tmp 13) rfl (w.heap.size + 1) 0 (wcells4 (0, 0, (k : Int), ⟨#[]⟩)).toArray rfl rfl TH7 info_lw ON7 ?_
       simp only [Act.put]
       generalize hw6 : World.setCells _ (w.heap.size + 1) 0 (wcells4 (0, 0, (k : Int), ⟨#[]⟩)).toArray.toList = w6
       have F41 : Blk w6 w.heap.size (wcells4 zw) := hw6 ▸ F4
       have F71 : Blk w6 (w.heap.size + 1) (wcells4 (0, 0, (k : Int), ⟨#[]⟩)) := hw6 ▸ F7
       have B71 : Below w.heap.size w w6 := hw6 ▸ B7
       have z71 : w6.heap.size = w.heap.size + 2 := hw6 ▸ z7
       clear hw6 TH7 TH4 F4 F7 B7 z7)
    | fail)
  refine (HL.out _).mono ?_
  rintro x w1 ⟨rfl, rfl⟩
  go_wp2_with fail
  refine (HD.out _).mono ?_
  rintro x w1 ⟨rfl, rfl⟩
  go_wp2_with fail
  refine (HR.out _).mono ?_
  rintro x w1 ⟨rfl, rfl⟩
  have c0 := F71.cell (j := 0) rfl
  have f0 := F71.frozen 0
  have F8 := F71.set 0 (.int .i64 2)
  have b8 := B71.setCell (p := ⟨w.heap.size + 1, 0, none⟩) (by simp) (.int .i64 2)
  have F9 := F41.setOther 0 (.int .i64 2) (b := w.heap.size + 1) (by omega)
  go_wp2_with fail
  refine (HI.out _).mono ?_
  rintro x w1 ⟨rfl, hw1⟩
  rw [hw1] at F8 b8 F9
  clear hw1 c0 f0
  have c1 := F8.cell (j := 1) rfl
  have f1 := F8.frozen 1
  have F72 : Blk (w1.setCell ⟨w.heap.size + 1, 1, none⟩ (.int .i64 n)) (w.heap.size + 1) (wcells4 (2, n, (k : Int), ⟨#[]⟩)) := F8.set 1 (.int .i64 n)
  have B72 := b8.setCell (p := ⟨w.heap.size + 1, 1, none⟩) (by simp) (.int .i64 n)
  have F42 := F9.setOther 1 (.int .i64 n) (b := w.heap.size + 1) (by omega)
  clear F8 b8 F9 F71 B71 F41
  have R9 := F72.range 0 (wcells4 (2, n, (k : Int), ⟨#[]⟩)) (by simp [wcells4])
  have TH9 := F42.there 0 4 (Nat.le_refl _)
  have FE : Blk (World.setCells (w1.setCell ⟨w.heap.size + 1, 1, none⟩ (.int .i64 n)) w.heap.size 0 (wcells4 (2, n, (k : Int), ⟨#[]⟩))) w.heap.size (wcells4 (2, n, (k : Int), ⟨#[]⟩)) := by simpa [wcells4, zw] using F42.sets (wcells4 (2, n, (k : Int), ⟨#[]⟩)) 0 (Nat.le_refl _)
  have BE := below_sets (b := w.heap.size) (Nat.le_refl _) (wcells4 (2, n, (k : Int), ⟨#[]⟩)) 0 B72
  have ONX := wcells4_one (2, n, (k : Int), ⟨#[]⟩)
  clear F72 F42 B72
  go_wp2_with (first
    | (refine wpList_load_mid rfl 34 (.tmp 7) rfl (w.heap.size + 1) 0 rfl (wcells4 (2, n, (k : Int), ⟨#[]⟩)) _ R9 hu rfl info_lw ?_)
    | (refine wpList_store_mid rfl 34 (.tmp 4) (.tmp 76) rfl w.heap.size 0 (wcells4 (2, n, (k : Int), ⟨#[]⟩)).toArray rfl rfl TH9 info_lw ONX ?_
       simp only [Act.put]
       generalize hwE : World.setCells _ w.heap.size 0 (wcells4 (2, n, (k : Int), ⟨#[]⟩)).toArray.toList = wE
       have FE1 : Blk wE w.heap.size (wcells4 (2, n, (k : Int), ⟨#[]⟩)) := hwE ▸ FE
       have BE1 : Below w.heap.size w wE := hwE ▸ BE
       clear hwE TH9 R9 FE BE)
    | fail)
  exact bodyPost_ret (v := .tuple #[.agg (wcells4 (2, n, (k : Int), ⟨#[]⟩)).toArray, .int .i64 (e : Int), .bool ok]) (results_blk_tmp2 (p := 5) (p2 := 6) (q := 4) rfl _ _ w.heap.size (wcells4 (2, n, (k : Int), ⟨#[]⟩)) _ _ _ rfl rfl rfl FE1 hu rfl info_lw) rfl ⟨rfl, BE1⟩
set_option maxRecDepth 100000 in
set_option maxHeartbeats 3200000 in
theorem word_quote (t : ByteArray) (k : Nat) (w : World) (hk : k < t.size) (hs : t.size ≤ 1000) (hc : (t[k]).toNat = 34) (q e : Nat) (hq : q = qend t.data.toList k) (hm : max ((k : Int) + 1) (q : Int) = (e : Int)) (hke : k < e) (het : e ≤ t.size) (kd n : Int) (s : ByteArray) (ok : Bool) (hv : vrd (t.extract k e) = ((kd, n, s), ok)) (ht : Tab w) :
    Calls Tryd.prog 13 #[.string t, .int .i64 (k : Int)] w fun x w' => x = .returned (.tuple #[.agg (wcells4 (3, 0, (k : Int), s)).toArray, .int .i64 (e : Int), .bool ok]) ∧ Below w.heap.size w w' := by
  have hl : letterB (t[k]) = false := by unfold letterB; rw [hc]; rfl
  have hd : dig (t[k]) = false := by unfold dig; rw [hc]; rfl
  have b34 : (((t[k]).toNat : Int) == 34) = true := by rw [hc]; rfl
  have HL := Lib.hid (fun wx : World => letter_any (t[k]) wx)
  have HD := Lib.hid (fun wx : World => digit_any (t[k]) wx)
  have HR := Lib.hid (fun wx : World => lquote_any t k wx (by omega) hs)
  have HV := Lib.hid (fun (wx : World) (hb : Below w.heap.size w wx) => (show Calls Tryd.prog 22 #[.string (t.extract k e)] wx fun e w' => e = .returned (.tuple #[.agg (vcells (kd, n, s)).toArray, .bool ok]) ∧ Below wx.heap.size wx w' from by
    have h := vread_any (t.extract k e) wx (by rw [ByteArray.size_extract]; omega) (ht.later hb)
    rw [hv] at h
    exact h))
  rw [hl] at HL
  rw [hd] at HD
  rw [← hq] at HR
  have huv := Tryd.underlying54
  have hu := Tryd.underlying34
  obtain ⟨W, hW, TH7, TH4, F4, F7, B7, z7⟩ := two_words w 34 k
  subst hW
  have ON7 := wcells4_one (0, 0, (k : Int), ⟨#[]⟩)
  have i1 : (0 : Int) ≤ (k : Int) := by omega
  have i2 : (k : Int) ≤ (e : Int) := by omega
  have i3 : (e : Int) ≤ (t.size : Int) := by omega
  have hke2 : (k : Int) + 1 ≤ 9223372036854775807 := by omega
  clear hq hc hl hd hv ht
  go_enter Tryd.func13, Tryd.ntmps13
  go_wp2_with (first
    | (refine wpList_store_mid rfl 34 (.tmp 7) (.tmp 13) rfl (w.heap.size + 1) 0 (wcells4 (0, 0, (k : Int), ⟨#[]⟩)).toArray rfl rfl TH7 info_lw ON7 ?_
       simp only [Act.put]
       generalize hw6 : World.setCells _ (w.heap.size + 1) 0 (wcells4 (0, 0, (k : Int), ⟨#[]⟩)).toArray.toList = w6
       have F41 : Blk w6 w.heap.size (wcells4 zw) := hw6 ▸ F4
       have F71 : Blk w6 (w.heap.size + 1) (wcells4 (0, 0, (k : Int), ⟨#[]⟩)) := hw6 ▸ F7
       have B71 : Below w.heap.size w w6 := hw6 ▸ B7
       have z71 : w6.heap.size = w.heap.size + 2 := hw6 ▸ z7
       clear hw6 TH7 TH4 F4 F7 B7 z7)
    | fail)
  refine (HL.out _).mono ?_
  rintro x w1 ⟨rfl, rfl⟩
  go_wp2_with fail
  refine (HD.out _).mono ?_
  rintro x w1 ⟨rfl, rfl⟩
  go_wp2_with fail
  refine (HR.out _).mono ?_
  rintro x w1 ⟨rfl, rfl⟩
  have BV0 := Blk.new w6 (vcells zval) 54
  rw [z71] at BV0
  have F43 := F41.alloc (.cells (vcells zval).toArray 54)
  have F73 := F71.alloc (.cells (vcells zval).toArray 54)
  have B73 := B71.alloc (by omega) (.cells (vcells zval).toArray 54)
  go_wp2_with fail
  refine (HV.out _ B73).mono ?_
  rintro x w2 ⟨rfl, hb2⟩
  have BV := BV0.later hb2
  have F44 := F43.later hb2
  have F74 := F73.later hb2
  have B74 := B73.trans (hb2.mono B73.size)
  have TV := BV.there 0 3 (Nat.le_refl _)
  have SV := BV.whole (ds := vcells (kd, n, s)) rfl
  have SF4 := Blk.setsOther (b := w.heap.size + 2) (by omega) (vcells (kd, n, s)) 0 F44
  have SF7 := Blk.setsOther (b := w.heap.size + 2) (by omega) (vcells (kd, n, s)) 0 F74
  have SB := below_sets (b := w.heap.size + 2) (by omega) (vcells (kd, n, s)) 0 B74
  have OV : (vcells (kd, n, s)).toArray.all (·.oneCell') = true := all_oneCell_toArray (by intro v hv; simp only [vcells, List.mem_cons, List.not_mem_nil, or_false] at hv; rcases hv with rfl | rfl | rfl <;> rfl)
  clear BV0 F43 F73 B73 hb2 BV F44 F74 B74 F41 F71 B71
  go_wp2_with (first
    | (refine wpList_store_mid rfl 54 (.tmp 11) (.tmp 70) rfl (w.heap.size + 2) 0 (vcells (kd, n, s)).toArray rfl rfl TV info_val OV ?_
       simp only [Act.put]
       generalize hw4 : World.setCells w2 (w.heap.size + 2) 0 (vcells (kd, n, s)).toArray.toList = w4
       have FV : Blk w4 (w.heap.size + 2) (vcells (kd, n, s)) := hw4 ▸ SV
       have F41 : Blk w4 w.heap.size (wcells4 zw) := hw4 ▸ SF4
       have F71 : Blk w4 (w.heap.size + 1) (wcells4 (0, 0, (k : Int), ⟨#[]⟩)) := hw4 ▸ SF7
       have B71 : Below w.heap.size w w4 := hw4 ▸ SB
       clear hw4 TV SV SF4 SF7 SB)
    | fail)
  have q2 : w4.cell? ⟨w.heap.size + 2, 2, none⟩ = some (.string s) := FV.cell rfl
  have c0 := F71.cell (j := 0) rfl
  have f0 := F71.frozen 0
  have c3 := F71.cell (j := 3) rfl
  have f3 := F71.frozen 3
  go_region
  have F8 := (F71.set 0 (.int .i64 3)).set 3 (.string s)
  have b8 := (B71.setCell (p := ⟨w.heap.size + 1, 0, none⟩) (by simp) (.int .i64 3)).setCell (p := ⟨w.heap.size + 1, 3, none⟩) (by simp) (.string s)
  have F9 := (F41.setOther 0 (.int .i64 3) (b := w.heap.size + 1) (by omega)).setOther 3 (.string s) (b := w.heap.size + 1) (by omega)
  clear c0 c3 f0 f3
  generalize hw9 : World.drew _ = w9
  have F72 : Blk w9 (w.heap.size + 1) (wcells4 (3, 0, (k : Int), s)) := hw9 ▸ F8.drew
  have F42 : Blk w9 w.heap.size (wcells4 zw) := hw9 ▸ F9.drew
  have B72 : Below w.heap.size w w9 := hw9 ▸ b8.drew
  clear hw9 F8 F9 b8
  have R9 := F72.range 0 (wcells4 (3, 0, (k : Int), s)) (by simp [wcells4])
  have TH9 := F42.there 0 4 (Nat.le_refl _)
  have FE : Blk (World.setCells w9 w.heap.size 0 (wcells4 (3, 0, (k : Int), s))) w.heap.size (wcells4 (3, 0, (k : Int), s)) := by simpa [wcells4, zw] using F42.sets (wcells4 (3, 0, (k : Int), s)) 0 (Nat.le_refl _)
  have BE := below_sets (b := w.heap.size) (Nat.le_refl _) (wcells4 (3, 0, (k : Int), s)) 0 B72
  have ONX := wcells4_one (3, 0, (k : Int), s)
  clear F72 F42 B72
  go_wp2_with (first
    | (refine wpList_load_mid rfl 34 (.tmp 7) rfl (w.heap.size + 1) 0 rfl (wcells4 (3, 0, (k : Int), s)) _ R9 hu rfl info_lw ?_)
    | (refine wpList_store_mid rfl 34 (.tmp 4) (.tmp 76) rfl w.heap.size 0 (wcells4 (3, 0, (k : Int), s)).toArray rfl rfl TH9 info_lw ONX ?_
       simp only [Act.put]
       generalize hwE : World.setCells _ w.heap.size 0 (wcells4 (3, 0, (k : Int), s)).toArray.toList = wE
       have FE1 : Blk wE w.heap.size (wcells4 (3, 0, (k : Int), s)) := hwE ▸ FE
       have BE1 : Below w.heap.size w wE := hwE ▸ BE
       clear hwE TH9 R9 FE BE)
    | fail)
  exact bodyPost_ret (v := .tuple #[.agg (wcells4 (3, 0, (k : Int), s)).toArray, .int .i64 (e : Int), .bool ok]) (results_blk_tmp2 (p := 5) (p2 := 6) (q := 4) rfl _ _ w.heap.size (wcells4 (3, 0, (k : Int), s)) _ _ _ rfl rfl rfl FE1 hu rfl info_lw) rfl ⟨rfl, BE1⟩

set_option maxRecDepth 100000 in
set_option maxHeartbeats 3200000 in
theorem word_sign (t : ByteArray) (k : Nat) (w : World) (hk : k < t.size) (hs : t.size ≤ 1000) (hl : letterB (t[k]) = false) (hd : dig (t[k]) = false) (hc : (t[k]).toNat ≠ 34) (ok : Bool) (hok : signB (t[k]) = ok) (e : Nat) (he : e = k + 1) :
    Calls Tryd.prog 13 #[.string t, .int .i64 (k : Int)] w fun x w' => x = .returned (.tuple #[.agg (wcells4 (4, 0, (k : Int), t.extract k e)).toArray, .int .i64 (e : Int), .bool ok]) ∧ Below w.heap.size w w' := by
  have b34 : (((t[k]).toNat : Int) == 34) = false := by rw [beq_eq_false_iff_ne]; omega
  have HL := Lib.hid (fun wx : World => letter_any (t[k]) wx)
  have HD := Lib.hid (fun wx : World => digit_any (t[k]) wx)
  have HS := Lib.hid (fun wx : World => Tryd.strings_IndexByte ⟨#[40, 41, 61, 60, 62, 126]⟩ ((t[k]).toNat : Int) wx)
  obtain ⟨ix, hix⟩ : ∃ ix, ix = Lib.indexByte (⟨#[40, 41, 61, 60, 62, 126]⟩ : ByteArray).data.toList (((t[k]).toNat : Int)).toNat.toUInt8 := ⟨_, rfl⟩
  have hdx : decide ((0 : Int) ≤ ix) = ok := by rw [hix, sign_idx, hok]
  rw [hl] at HL
  rw [hd] at HD
  rw [← hix] at HS
  have hu := Tryd.underlying34
  obtain ⟨W, hW, TH7, TH4, F4, F7, B7, z7⟩ := two_words w 34 k
  subst hW
  have ON7 := wcells4_one (0, 0, (k : Int), ⟨#[]⟩)
  have i1 : (0 : Int) ≤ (k : Int) := by omega
  have i2 : (k : Int) ≤ (e : Int) := by omega
  have i3 : (e : Int) ≤ (t.size : Int) := by omega
  have hE : (k : Int) + 1 = (e : Int) := by omega
  clear hl hd hc hok hix he
  go_enter Tryd.func13, Tryd.ntmps13
  go_wp2_with (first
    | (refine wpList_store_mid rfl 34 (.tmp 7) (.tmp 13) rfl (w.heap.size + 1) 0 (wcells4 (0, 0, (k : Int), ⟨#[]⟩)).toArray rfl rfl TH7 info_lw ON7 ?_
       simp only [Act.put]
       generalize hw6 : World.setCells _ (w.heap.size + 1) 0 (wcells4 (0, 0, (k : Int), ⟨#[]⟩)).toArray.toList = w6
       have F41 : Blk w6 w.heap.size (wcells4 zw) := hw6 ▸ F4
       have F71 : Blk w6 (w.heap.size + 1) (wcells4 (0, 0, (k : Int), ⟨#[]⟩)) := hw6 ▸ F7
       have B71 : Below w.heap.size w w6 := hw6 ▸ B7
       have z71 : w6.heap.size = w.heap.size + 2 := hw6 ▸ z7
       clear hw6 TH7 TH4 F4 F7 B7 z7)
    | fail)
  refine (HL.out _).mono ?_
  rintro x w1 ⟨rfl, rfl⟩
  go_wp2_with fail
  refine (HD.out _).mono ?_
  rintro x w1 ⟨rfl, rfl⟩
  have c0 := F71.cell (j := 0) rfl
  have f0 := F71.frozen 0
  have c3 := F71.cell (j := 3) rfl
  have f3 := F71.frozen 3
  go_wp2_with fail
  go_region
  have F8 := (F71.set 0 (.int .i64 4)).set 3 (.string (t.extract k e))
  have b8 := (B71.setCell (p := ⟨w.heap.size + 1, 0, none⟩) (by simp) (.int .i64 4)).setCell (p := ⟨w.heap.size + 1, 3, none⟩) (by simp) (.string (t.extract k e))
  have F9 := (F41.setOther 0 (.int .i64 4) (b := w.heap.size + 1) (by omega)).setOther 3 (.string (t.extract k e)) (b := w.heap.size + 1) (by omega)
  clear c0 c3 f0 f3
  generalize hw9 : World.drew _ = w9
  have F72 : Blk w9 (w.heap.size + 1) (wcells4 (4, 0, (k : Int), t.extract k e)) := hw9 ▸ F8.drew
  have F42 : Blk w9 w.heap.size (wcells4 zw) := hw9 ▸ F9.drew
  have B72 : Below w.heap.size w w9 := hw9 ▸ b8.drew
  clear hw9 F8 F9 b8
  go_wp2_with fail
  refine (HS.out _).mono ?_
  rintro x w1 ⟨rfl, hw1⟩
  subst hw1
  have R9 := F72.range 0 (wcells4 (4, 0, (k : Int), t.extract k e)) (by simp [wcells4])
  have TH9 := F42.there 0 4 (Nat.le_refl _)
  have FE : Blk (World.setCells w1 w.heap.size 0 (wcells4 (4, 0, (k : Int), t.extract k e))) w.heap.size (wcells4 (4, 0, (k : Int), t.extract k e)) := by simpa [wcells4, zw] using F42.sets (wcells4 (4, 0, (k : Int), t.extract k e)) 0 (Nat.le_refl _)
  have BE := below_sets (b := w.heap.size) (Nat.le_refl _) (wcells4 (4, 0, (k : Int), t.extract k e)) 0 B72
  have ONX := wcells4_one (4, 0, (k : Int), t.extract k e)
  clear F72 F42 B72
  go_wp2_with (first
    | (refine wpList_load_mid rfl 34 (.tmp 7) rfl (w.heap.size + 1) 0 rfl (wcells4 (4, 0, (k : Int), t.extract k e)) _ R9 hu rfl info_lw ?_)
    | (refine wpList_store_mid rfl 34 (.tmp 4) (.tmp 76) rfl w.heap.size 0 (wcells4 (4, 0, (k : Int), t.extract k e)).toArray rfl rfl TH9 info_lw ONX ?_
       simp only [Act.put]
       generalize hwE : World.setCells _ w.heap.size 0 (wcells4 (4, 0, (k : Int), t.extract k e)).toArray.toList = wE
       have FE1 : Blk wE w.heap.size (wcells4 (4, 0, (k : Int), t.extract k e)) := hwE ▸ FE
       have BE1 : Below w.heap.size w wE := hwE ▸ BE
       clear hwE TH9 R9 FE BE)
    | fail)
  exact bodyPost_ret (v := .tuple #[.agg (wcells4 (4, 0, (k : Int), t.extract k e)).toArray, .int .i64 (e : Int), .bool ok]) (results_blk_tmp2 (p := 5) (p2 := 6) (q := 4) rfl _ _ w.heap.size (wcells4 (4, 0, (k : Int), t.extract k e)) _ _ _ rfl rfl rfl FE1 hu rfl info_lw) rfl ⟨rfl, BE1⟩
end Go.Proofs.YtdpghoobdkhilaaDoor

/- The document's text of any number; what a number's text is read as, up to any number. -/
namespace Go.Proofs.YtdpghoobdkhilaaDoor
set_option linter.unusedVariables false
open Go Go.RowKit BitM MskM

theorem itoa_min : str (Lib.itoa (-9223372036854775808)) = ⟨#[45, 57, 50, 50, 51, 51, 55, 50, 48, 51, 54, 56, 53, 52, 55, 55, 53, 56, 48, 56]⟩ := by decide +kernel
theorem rtens_any (n : Int) (w : World) (h0 : -9223372036854775808 ≤ n) (h1 : n ≤ 9223372036854775807) :
    Calls Tryd.prog 16 #[.int .i64 n] w fun e w' => e = .returned (.string (str (Lib.itoa n))) ∧ Below w.heap.size w w' := by
  by_cases hn : 0 ≤ n
  · exact rtens_small n w hn h1
  · by_cases hm : n = -9223372036854775808
    · subst hm
      rw [itoa_min]
      go_enter Tryd.func16, Tryd.ntmps16
      go_wp2_with fail
      go_ret
      exact ⟨rfl, Below.refl _ _⟩
    · obtain ⟨k, hk⟩ : ∃ k : Nat, -n = (k : Int) := ⟨(-n).toNat, by omega⟩
      have hd : decide (n < 0) = true := by simp; omega
      have he : (n == -9223372036854775808) = false := by rw [beq_eq_false_iff_ne]; exact hm
      have hu : (Lib.decDigits k).length ≤ 19 := dec_small (by omega)
      have HE : Hid (str (Lib.itoa n) = ⟨#[45]⟩ ++ str (Lib.decDigits k)) := Lib.hid (by
        have : Lib.itoa n = [45] ++ Lib.decDigits k := by
          rw [show n = -(k : Int) by omega, Lib.itoa_neg k (by omega)]; rfl
        rw [this, ← str_append]; rfl)
      have HR := Lib.hid (fun wx : World => (show Calls Tryd.prog 16 #[.int .i64 (-n)] wx fun e w' => e = .returned (.string (str (Lib.decDigits k))) ∧ Below wx.heap.size wx w' from by
        rw [hk]; exact rtens_nat k k wx (Nat.le_refl _) (by omega)))
      have hz : (str (Lib.decDigits k)).size ≤ 19 := by rw [str_size]; exact hu
      obtain ⟨u, hu2⟩ : ∃ u, u = str (Lib.decDigits k) := ⟨_, rfl⟩
      rw [← hu2] at HR hz HE
      obtain ⟨r, hr⟩ : ∃ r, r = str (Lib.itoa n) := ⟨_, rfl⟩
      rw [← hr] at HE ⊢
      have hlo : n < 0 := by omega
      have hhi : -9223372036854775807 ≤ n := by omega
      clear hu2 hr hk hu hn hm
      go_enter Tryd.func16, Tryd.ntmps16
      go_wp2_with fail
      refine (HR.out _).mono ?_
      rintro e w1 ⟨rfl, hb⟩
      go_wp2_with fail
      go_ret
      exact ⟨by rw [HE.out]; rfl, hb⟩

/-- What a number's text is read as, up to any number. -/
theorem pint_most (n most : Int) (h0 : 0 ≤ n) (hn : n ≤ 1099511627776) : pint (Lib.itoa n) most = if n ≤ most then (n, true) else (0, false) := by
  have h := pint_itoa n h0 hn
  unfold pint at h ⊢
  split at h
  · cases h
  · rename_i hc
    injection h with h1 h2
    simp only [not_or] at hc
    obtain ⟨c1, c2, c3, c4, c5⟩ := hc
    by_cases hm : n ≤ most
    · rw [if_pos hm, if_neg, h1]
      rintro (e | e | e | e | e)
      · exact c1 e
      · exact c2 e
      · exact c3 e
      · exact c4 e
      · omega
    · rw [if_neg hm, if_pos]
      exact .inr (.inr (.inr (.inr (by omega))))
theorem pint_neg (n most : Int) (h0 : n < 0) : pint (Lib.itoa n) most = (0, false) := by
  have e : Lib.itoa n = 45 :: Lib.decDigits (-n).toNat := by
    have h := Lib.itoa_neg (-n).toNat (by omega)
    rw [show -(((-n).toNat : Nat) : Int) = n by omega] at h
    exact h
  rw [e]
  unfold pint
  rw [if_pos (.inr (.inr (.inr (.inl (by rw [List.all_cons, show dig 45 = false by decide, Bool.false_and])))))]
theorem pint_large (n most : Int) (h0 : 1099511627776 < n) : pint (Lib.itoa n) most = (0, false) := by
  obtain ⟨k, rfl⟩ := Int.eq_ofNat_of_zero_le (show 0 ≤ n by omega)
  have hi : Lib.itoa (k : Int) = Lib.decDigits k := by unfold Lib.itoa; rw [if_neg (by omega), Int.toNat_natCast]
  rw [hi]
  unfold pint
  by_cases hc : Lib.decDigits k = [] ∨ 14 ≤ (Lib.decDigits k).length ∨ (1 < (Lib.decDigits k).length ∧ (Lib.decDigits k).headD 0 = 48) ∨ (Lib.decDigits k).all dig = false ∨ min most 1099511627776 < (num (Lib.decDigits k) : Int)
  · rw [if_pos hc]
  · exfalso
    simp only [not_or] at hc
    have h5 := hc.2.2.2.2
    rw [(dec_facts k k (Nat.le_refl _)).1] at h5
    omega
end Go.Proofs.YtdpghoobdkhilaaDoor
