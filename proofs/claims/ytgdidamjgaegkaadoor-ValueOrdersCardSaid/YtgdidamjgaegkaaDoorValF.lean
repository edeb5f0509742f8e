/- The document's ahead, low, Fold: what each returns. -/
import Derived.Test.YtgdidamjgaegkaaDoorValD
namespace Go.Proofs.YtgdidamjgaegkaaDoor
set_option linter.unusedVariables false
open Go Go.RowKit BitM ValM

theorem rahead_any (x y : Int) (w : World) : Calls Tryd.prog 80 #[.int .i64 x, .int .i64 y] w fun e w' => e = .returned (.int .i64 (cmpI x y)) ∧ w = w' := by
  rcases Int.lt_trichotomy x y with h | h | h
  · have HC : Hid (cmpI x y = -1) := Lib.hid (by unfold cmpI; rw [if_pos h])
    go_enter Tryd.func80, Tryd.ntmps80
    go_wp2_with fail
    go_ret
    exact ⟨by rw [HC.out]; rfl, rfl⟩
  · subst h
    have HC : Hid (cmpI x x = 0) := Lib.hid (by unfold cmpI; simp)
    go_enter Tryd.func80, Tryd.ntmps80
    go_wp2_with fail
    go_ret
    exact ⟨by rw [HC.out]; rfl, rfl⟩
  · have h2 : ¬ x < y := by omega
    have HC : Hid (cmpI x y = 1) := Lib.hid (by unfold cmpI; rw [if_neg (by omega), if_pos (by omega)])
    go_enter Tryd.func80, Tryd.ntmps80
    go_wp2_with fail
    go_ret
    exact ⟨by rw [HC.out]; rfl, rfl⟩

theorem rlow_any (c : UInt8) (w : World) : Calls Tryd.prog 81 #[.int .u8 (c.toNat : Int)] w fun e w' => e = .returned (.int .u8 ((lowB c).toNat : Int)) ∧ w = w' := by
  obtain ⟨r, hr⟩ : ∃ r, r = (lowB c).toNat := ⟨_, rfl⟩
  have hc : c.toNat < 256 := UInt8.toNat_lt c
  by_cases hu : 65 ≤ c.toNat ∧ c.toNat ≤ 90
  · rw [lowB_up hu.1 hu.2] at hr
    rw [lowB_up hu.1 hu.2]
    obtain ⟨h1, h2⟩ := hu
    obtain ⟨m, hm⟩ : ∃ m, m = c.toNat := ⟨_, rfl⟩
    rw [← hm] at h1 h2 ⊢
    have h1' : (65 : Int) ≤ (m : Int) := by omega
    have h2' : (m : Int) ≤ 90 := by omega
    clear hm hc hr
    go_enter Tryd.func81, Tryd.ntmps81
    go_wp2_with fail
    go_ret
    exact ⟨by first | rfl | (simp; done), rfl⟩
  · rw [lowB_same hu]
    obtain ⟨m, hm⟩ : ∃ m, m = c.toNat := ⟨_, rfl⟩
    rw [← hm] at hu ⊢
    clear hm hc hr
    by_cases h1 : 65 ≤ m
    · have h1' : (65 : Int) ≤ (m : Int) := by omega
      have h2' : ¬ (m : Int) ≤ 90 := by omega
      clear hu h1
      go_enter Tryd.func81, Tryd.ntmps81
      go_wp2_with fail
      go_ret
      exact ⟨rfl, rfl⟩
    · have h1' : ¬ (65 : Int) ≤ (m : Int) := by omega
      clear hu h1
      go_enter Tryd.func81, Tryd.ntmps81
      go_wp2_with fail
      go_ret
      exact ⟨rfl, rfl⟩

set_option maxRecDepth 100000 in
set_option maxHeartbeats 1600000 in
theorem rfold_any (s : ByteArray) (w : World) (hs : s.size ≤ 1000) : Calls Tryd.prog 42 #[.string s] w fun e w' => e = .returned (.string (str (fold s.data.toList))) ∧ Below w.heap.size w w' := by
  have HN : Hid (s.data.toList.length = s.size) := Lib.hid (by simp)
  obtain ⟨u, hu⟩ : ∃ u, u = str (fold s.data.toList) := ⟨_, rfl⟩
  rw [← hu]
  have HUU := Lib.hid hu
  clear hu
  go_enter Tryd.func42, Tryd.ntmps42
  go_wp2_with fail
  go_loopw [4, 3] (fun i t wr => ∃ (k : Nat) (p : ByteArray), k ≤ s.size ∧ i = .int .i64 k ∧ t = .string p ∧ p.size = k ∧ Hid (p = str ((s.data.toList.take k).map lowB)) ∧ Below w.heap.size w wr) (fun i _ _ => s.size - (intOf i).toNat)
  case atStart => exact ⟨0, _, Nat.zero_le _, rfl, rfl, rfl, Lib.hid rfl, Below.refl _ _⟩
  case round =>
    obtain ⟨k, p, hk, rfl, rfl, hp, HP, hbr⟩ := hrel
    by_cases hlt : k < s.size
    · have HL := Lib.hid (fun wx : World => rlow_any s[k] wx)
      have HX := Lib.hid (take_byte s k hlt)
      obtain ⟨c, hc⟩ : ∃ c, c = s[k] := ⟨_, rfl⟩
      have HC := Lib.hid hc
      rw [← hc] at HX
      have hstr := digit_str wr ((lowB c).toNat : Int) (lowB c).toNat (UInt8.toNat_lt _) rfl
      rw [show UInt8.ofNat (lowB c).toNat = lowB c by simp] at hstr
      have hs1 : (str [lowB c]).size = 1 := str_size _
      obtain ⟨q, hq⟩ : ∃ q, q = str [lowB c] := ⟨_, rfl⟩
      rw [← hq] at hstr hs1
      have HQ := Lib.hid hq
      obtain ⟨m, hm⟩ : ∃ m, m = (lowB c).toNat := ⟨_, rfl⟩
      rw [← hm] at hstr
      have HL : Hid (∀ wx : World, Calls Tryd.prog 81 #[.int .u8 ((s[k]).toNat : Int)] wx fun e w' => e = .returned (.int .u8 (m : Int)) ∧ wx = w') := Lib.hid (by
        intro wx; rw [hm, hc]; exact rlow_any _ _)
      have hb2 : Below w.heap.size w (wr.alloc (.cells #[.int .u8 (m : Int)] 5)) := hbr.alloc hbr.size _
      have HB := Lib.hid hb2
      clear hc hq hm hb2 hbr
      go_wp2_with fail
      refine (HL.out _).mono ?_
      rintro e w' ⟨rfl, rfl⟩
      go_wp2_with fail
      go_roundw
      case rel =>
        refine ⟨k + 1, p ++ q, by omega, by go_num, rfl, ?_, Lib.hid ?_, HB.out⟩
        · rw [ByteArray.size_append]; omega
        · rw [HX.out, List.map_append, ← str_append, ← HP.out, HQ.out]; rfl
      case measure => simp [intOf]; omega
    · have hkk : k = s.size := by omega
      subst hkk
      have HE : Hid (p = u) := Lib.hid (by rw [HP.out, HUU.out, List.take_of_length_le (by rw [HN.out]; exact Nat.le_refl _)]; rfl)
      go_wp2_with fail
      go_ret
      exact ⟨by rw [HE.out]; rfl, hbr⟩
end Go.Proofs.YtgdidamjgaegkaaDoor
