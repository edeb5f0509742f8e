/- octet.first: the number that bytes begin with. -/
import Derived.Test.YticdpfjajkfheaaDoorOctA
namespace Go.Proofs.YticdpfjajkfheaaDoor
set_option linter.unusedVariables false
open Go.RowKit OctM

theorem u8_and127 (c : UInt8) : bits .and .u8 (c.toNat : Int) 127 = (c.toNat : Int) % 128 := by
  have := u8_and_nat c.toNat 127 c.toNat_lt (by omega)
  have h2 := Nat.and_two_pow_sub_one_eq_mod c.toNat 7
  simp only [show (2 : Nat) ^ 7 - 1 = 127 from rfl, show (2 : Nat) ^ 7 = 128 from rfl] at h2
  rw [h2] at this
  simpa using this

theorem or_step (m k : Nat) (x : UInt8) (hk : k < 6) (hm : m < 128 ^ k) : bits .or .i64 (m : Int) (wrap64 ((x.toNat : Int) % 128 * 2 ^ (7 * k))) = ((m + x.toNat % 128 * 128 ^ k : Nat) : Int) := by
  have e1 : (2 : Nat) ^ (7 * k) = 128 ^ k := by rw [Nat.pow_mul]
  have e2 : ((x.toNat : Int) % 128 * 2 ^ (7 * k)) = ((2 ^ (7 * k) * (x.toNat % 128) : Nat) : Int) := by
    push_cast; rw [Int.mul_comm]
  have b1 : (2 : Nat) ^ (7 * k) ≤ 2 ^ 35 := Nat.pow_le_pow_right (by omega) (by omega)
  have b2 : 2 ^ (7 * k) * (x.toNat % 128) ≤ 2 ^ 35 * 127 := Nat.mul_le_mul b1 (by omega)
  have b3 : m < 2 ^ (7 * k) := by rw [e1]; exact hm
  rw [e2]
  have e3 : wrap64 ((2 ^ (7 * k) * (x.toNat % 128) : Nat) : Int) = ((2 ^ (7 * k) * (x.toNat % 128) : Nat) : Int) := by
    simp only [wrap64]; omega
  rw [e3, i64_or_low (x.toNat % 128) m (7 * k) b3 (by omega), e1, Nat.mul_comm (128 ^ k)]

set_option maxRecDepth 8000 in
set_option maxHeartbeats 1600000 in
theorem oct_first (A : Option Addr) (n c : Nat) (l : List UInt8) (w : World) (B : Nat) (hn : l.length = n) (hs : Sees w B A (bvs l)) (hm : n ≤ 2097152) :
    Calls Tryd.prog 71 #[.slice A n c] w fun e w' => e = .returned (.tuple #[.int .i64 ((scan l 0 0).1 : Nat), .int .i64 ((scan l 0 0).2.1 : Nat), .int .i64 ((scan l 0 0).2.2 : Nat)]) ∧ w = w' := by
  obtain ⟨s0, hs0⟩ : ∃ s0, s0 = scan l 0 0 := ⟨_, rfl⟩
  rw [← hs0]
  have HS := Lib.hid hs0
  clear hs0
  subst hn
  go_enter Tryd.func71, Tryd.ntmps71
  go_wp2_with fail
  go_loop [5, 10] (fun v i => ∃ k m : Nat, k ≤ l.length ∧ k ≤ 6 ∧ i = .int .i64 k ∧ v = .int .i64 m ∧ m < 128 ^ k ∧ s0 = scan (l.drop k) k m) (fun _ i => l.length - (intOf i).toNat)
  case atStart => exact ⟨0, 0, Nat.zero_le _, Nat.zero_le _, rfl, rfl, by simp, by rw [HS.out]; rfl⟩
  case round =>
    obtain ⟨k, m, hk, hk6, rfl, rfl, hmk, hsc⟩ := hrel
    have HSC := Lib.hid hsc
    have HMK := Lib.hid hmk
    clear hsc hmk
    by_cases hlt : k < l.length
    · have hA : ∃ b o, A = some ⟨b, o, none⟩ := by
        obtain ⟨b, o, h, _⟩ := hs (by rw [bvs_length]; omega)
        exact ⟨b, o, h⟩
      obtain ⟨b, o, rfl⟩ := hA
      have hc := hs.byte k hlt
      obtain ⟨x, hx⟩ : ∃ x, x = l[k] := ⟨_, rfl⟩
      rw [← hx] at hc
      have HX := Lib.hid hx
      have hxl := x.toNat_lt
      clear hx
      have hand := u8_and127 x
      have hcons : l.drop k = x :: l.drop (k + 1) := by rw [HX.out]; exact List.drop_eq_getElem_cons hlt
      have hsc := HSC.out
      rw [hcons] at hsc
      simp only [scan] at hsc
      by_cases h6 : k = 6
      · rw [if_pos h6] at hsc
        have HR := Lib.hid hsc
        have he : ((k : Int) == 6) = true := by simp; omega
        have hK := Lib.hid h6
        clear hsc h6 hcons hk6
        go_wp2_with fail
        go_ret3
        exact ⟨by rw [HR.out]; rfl, rfl⟩
      · rw [if_neg h6] at hsc
        have hk5 : k < 6 := by omega
        have he : ((k : Int) == 6) = false := by simp; omega
        have HK := Lib.hid hk5
        clear hcons h6
        by_cases hlo : x.toNat < 128
        · rw [if_pos hlo] at hsc
          have hd : decide ((x.toNat : Int) < 128) = true := by simp; omega
          have hmod : x.toNat % 128 = x.toNat := Nat.mod_eq_of_lt hlo
          have HLO := Lib.hid hlo
          clear hlo
          by_cases hz : x.toNat = 0
          · have hd2 : ((x.toNat : Int) == 0) = true := by simp; omega
            by_cases hk0 : 0 < k
            · rw [if_pos ⟨hz, hk0⟩] at hsc
              have HR := Lib.hid hsc
              have hd3 : decide ((0 : Int) < (k : Int)) = true := by simp; omega
              have hd3' : decide (0 < k) = true := by simp; omega
              have HZ := Lib.hid hz
              have HK0 := Lib.hid hk0
              clear hsc hz hk0 hmod
              go_wp2_with fail
              go_ret3
              exact ⟨by rw [HR.out]; rfl, rfl⟩
            · rw [if_neg (fun h => hk0 h.2)] at hsc
              have HR := Lib.hid hsc
              have hd3 : decide ((0 : Int) < (k : Int)) = false := by simp; omega
              have hd3' : decide (0 < k) = false := by simp; omega
              have HZ := Lib.hid hz
              have HK0 := Lib.hid hk0
              clear hsc hz hk0 hmod
              go_wp2_with fail
              go_ret3
              refine ⟨?_, rfl⟩
              rw [HR.out, ← or_step m k x HK.out HMK.out]
              rfl
          · rw [if_neg (fun h => hz h.1)] at hsc
            have HR := Lib.hid hsc
            have hd2 : ((x.toNat : Int) == 0) = false := by simp; omega
            have HZ := Lib.hid hz
            clear hsc hz hmod
            go_wp2_with fail
            go_ret3
            refine ⟨?_, rfl⟩
            rw [HR.out, ← or_step m k x HK.out HMK.out]
            rfl
        · rw [if_neg hlo] at hsc
          have hd : decide ((x.toNat : Int) < 128) = false := by simp; omega
          have HLO := Lib.hid hlo
          have HR := Lib.hid hsc
          clear hlo hsc
          go_wp2_with fail
          go_round
          case rel =>
            refine ⟨k + 1, m + x.toNat % 128 * 128 ^ k, by omega, by omega, by go_num, by rw [or_step m k x HK.out HMK.out], ?_, HR.out⟩
            have h1 : x.toNat % 128 * 128 ^ k ≤ 127 * 128 ^ k := Nat.mul_le_mul_right _ (by omega)
            have h2 := HMK.out
            rw [Nat.pow_succ]
            omega
          case measure => simp [intOf]; omega
    · obtain rfl : k = l.length := by omega
      have hsc := HSC.out
      rw [List.drop_length] at hsc
      simp only [scan] at hsc
      by_cases h6 : 6 ≤ l.length
      · rw [if_pos h6] at hsc
        have HR := Lib.hid hsc
        have hd : decide ((6 : Int) ≤ (l.length : Int)) = true := by simp; omega
        clear hsc
        go_wp2_with fail
        go_ret3
        exact ⟨by rw [HR.out]; rfl, rfl⟩
      · rw [if_neg h6] at hsc
        have HR := Lib.hid hsc
        have hd : decide ((6 : Int) ≤ (l.length : Int)) = false := by simp; omega
        have hlt6 : l.length < 6 := by omega
        clear hsc h6
        go_wp2_with fail
        go_ret3
        exact ⟨by rw [HR.out]; rfl, rfl⟩
end Go.Proofs.YticdpfjajkfheaaDoor
