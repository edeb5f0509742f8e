/- The document's next: what it returns. -/
import Derived.Test.YtncbhpopobjaiaaR1
import Derived.Handy
namespace Go.Proofs.Ytncbhpopobjaiaa
set_option linter.unusedVariables false
open Go.RowKit OctM

theorem getD_str (l : List UInt8) (k : Nat) (h : k < (str l).size) : (str l)[k] = l.getD k 0 := by
  rw [str_get]
  have : k < l.length := by rw [← str_size]; exact h
  simp [List.getD, List.getElem?_eq_getElem this]

set_option maxRecDepth 8000 in
set_option maxHeartbeats 1600000 in
theorem ref_next (l : List UInt8) (most : Int) (w : World) (hm : l.length ≤ 2097152) :
    Calls Try.prog 52 #[.string (str l), .int .i64 most] w fun e w' =>
      e = .returned (.tuple #[.int .i64 ((nextOut l most).1 : Nat), .int .i64 ((nextOut l most).2.1 : Nat), .int .i64 ((nextOut l most).2.2 : Nat)]) ∧ w = w' := by
  have hsz := str_size l
  go_enter Try.func52, Try.ntmps52
  go_wp2_with fail
  go_loop [7] (fun i => ∃ k : Nat, k ≤ 6 ∧ k ≤ l.length ∧ i = .int .i64 k ∧ (∀ j, j < k → 128 ≤ (l.getD j 0).toNat)) (fun i => 6 - (intOf i).toNat)
  case atStart => exact ⟨0, Nat.zero_le _, Nat.zero_le _, rfl, fun j h => absurd h (Nat.not_lt_zero j)⟩
  case round =>
    obtain ⟨k, hk6, hkl, rfl, ha⟩ := hrel
    have HA := Lib.hid ha
    clear ha
    by_cases h6 : k < 6
    · have d6 : decide ((k : Int) < 6) = true := by simp; omega
      by_cases hl : k < l.length
      · have dl : decide ((k : Int) < (l.length : Int)) = true := by simp; omega
        have hks : k < (str l).size := by rw [hsz]; exact hl
        by_cases hx : 128 ≤ (l.getD k 0).toNat
        · have dx : decide ((128 : Int) ≤ ((str l)[k].toNat : Int)) = true := by rw [getD_str]; exact decide_eq_true (by omega)
          have HX := Lib.hid hx
          clear hx
          go_wp2_with fail
          go_round
          case rel => exact ⟨k + 1, by omega, by omega, by go_num, fun j hj => by
            by_cases e : j = k
            · rw [e]; exact HX.out
            · exact HA.out j (by omega)⟩
          case measure => simp [intOf]; try omega
        · have dx : decide ((128 : Int) ≤ ((str l)[k].toNat : Int)) = false := by rw [getD_str]; exact decide_eq_false (by omega)
          have hlow := next_low l k h6 hl HA.out (by omega)
          have hk7 : k < 7 := by omega
          by_cases hz : (l.getD k 0).toNat = 0 ∧ 0 < k
          · have HR := Lib.hid (show nextOut l most = (0, 0, 3) from by unfold nextOut; rw [hlow, if_pos hz]; simp)
            have dz : (((str l)[k].toNat : Int) == 0) = true := by rw [getD_str, hz.1]; rfl
            have dk : decide ((0 : Int) < (k : Int)) = true := by simp; omega
            have dk' : decide (0 < k) = true := by simp; omega
            have he6 : ((k : Int) == 6) = false := by simp; omega
            have hel : ((k : Int) == (l.length : Int)) = false := by simp; omega
            have HX := Lib.hid hx
            have HZ := Lib.hid hz
            clear hx hz hlow
            go_wp2_with fail
            go_ret3
            exact ⟨by rw [HR.out]; rfl, rfl⟩
          · have HNO := Lib.hid (show nextOut l most = if 1099511627776 < (val l (k + 1) : Int) ∨ most < (val l (k + 1) : Int) then (0, 0, 4) else (val l (k + 1), k + 1, 0) from by unfold nextOut; rw [hlow, if_neg hz]; simp)
            have he6 : ((k : Int) == 6) = false := by simp; omega
            have hel : ((k : Int) == (l.length : Int)) = false := by simp; omega
            have hk5 : k ≤ 5 := by omega
            by_cases hk0 : 0 < k
            · have dk : decide ((0 : Int) < (k : Int)) = true := by simp; omega
              have dk' : decide (0 < k) = true := by simp; omega
              have dz : (((str l)[k].toNat : Int) == 0) = false := by
                rw [getD_str]
                have : (l.getD k 0).toNat ≠ 0 := fun h => hz ⟨h, hk0⟩
                rw [beq_eq_false_iff_ne]; omega
              have HX := Lib.hid hx
              have HZ := Lib.hid hz
              clear hx hz hlow
              go_wp2_with fail
              go_loop [8, 9] (fun v i => ∃ r u : Nat, r ≤ k + 1 ∧ v = .int .i64 u ∧ i = .int .i64 ((r : Int) - 1) ∧ val l (k + 1) = val l r + u * 128 ^ r ∧ u < 128 ^ (k + 1 - r)) (fun _ i => ((intOf i) + 1).toNat)
              case atStart => exact ⟨k + 1, 0, Nat.le_refl _, rfl, by simp, by simp, by simp⟩
              case round =>
                obtain ⟨r, u, hrk, rfl, rfl, hv, hu⟩ := hrel
                have HV := Lib.hid hv
                have HU := Lib.hid hu
                clear hv
                by_cases hr0 : r = 0
                · subst hr0
                  have HW := Lib.hid (show val l (k + 1) = u from by rw [HV.out]; simp [val])
                  have HNO2 := Lib.hid (show nextOut l most = if 1099511627776 < (u : Int) ∨ most < (u : Int) then (0, 0, 4) else (u, k + 1, 0) from by rw [HNO.out, HW.out])
                  clear hu
                  by_cases hb : 1099511627776 < (u : Int)
                  · have HR := Lib.hid (show nextOut l most = (0, 0, 4) from by rw [HNO2.out, if_pos (.inl hb)])
                    have db : decide ((1099511627776 : Int) < (u : Int)) = true := decide_eq_true hb
                    clear hb
                    go_wp2_with fail
                    go_ret3
                    exact ⟨by rw [HR.out]; rfl, rfl⟩
                  · have db : decide ((1099511627776 : Int) < (u : Int)) = false := decide_eq_false hb
                    by_cases hb2 : most < (u : Int)
                    · have HR := Lib.hid (show nextOut l most = (0, 0, 4) from by rw [HNO2.out, if_pos (.inr hb2)])
                      have db2 : decide (most < (u : Int)) = true := decide_eq_true hb2
                      clear hb hb2
                      go_wp2_with fail
                      go_ret3
                      exact ⟨by rw [HR.out]; rfl, rfl⟩
                    · have HR := Lib.hid (show nextOut l most = (u, k + 1, 0) from by rw [HNO2.out, if_neg (by omega)])
                      have db2 : decide (most < (u : Int)) = false := decide_eq_false hb2
                      clear hb hb2
                      go_wp2_with fail
                      go_ret3
                      exact ⟨by rw [HR.out]; rfl, rfl⟩
                · obtain ⟨q, rfl⟩ : ∃ q, r = q + 1 := ⟨r - 1, by omega⟩
                  have hub : u < 34359738368 := Nat.lt_of_lt_of_le hu (Nat.le_trans (Nat.pow_le_pow_right (by omega) (show k + 1 - (q + 1) ≤ 5 by omega)) (by decide))
                  have hqs : q < (str l).size := by rw [hsz]; omega
                  have dq : decide ((0 : Int) ≤ ((q + 1 : Nat) : Int) - 1) = true := by simp; try omega
                  have hqe : ((q + 1 : Nat) : Int) - 1 = (q : Int) := by omega
                  rw [hqe]
                  have hxq := (str l)[q].toNat_lt
                  have HQ := Lib.hid (getD_str l q hqs)
                  clear hu hr0
                  go_wp2_with fail
                  go_round
                  case rel =>
                    refine ⟨q, u * 128 + (l.getD q 0).toNat % 128, by omega, by rw [← HQ.out]; go_num, by go_num, ?_, ?_⟩
                    · rw [HV.out, val, Nat.pow_succ, Nat.add_mul]; 
                      have : u * (128 ^ q * 128) = u * 128 * 128 ^ q := by rw [Nat.mul_comm (128 ^ q), Nat.mul_assoc]
                      omega
                    · have e : k + 1 - q = (k + 1 - (q + 1)) + 1 := by omega
                      have := HU.out
                      rw [e, Nat.pow_succ]
                      omega
                  case measure => simp [intOf]
            · have dk : decide ((0 : Int) < (k : Int)) = false := by simp; omega
              have dk' : decide (0 < k) = false := by simp; omega
              have HX := Lib.hid hx
              have HZ := Lib.hid hz
              clear hx hz hlow
              go_wp2_with fail
              go_loop [8, 9] (fun v i => ∃ r u : Nat, r ≤ k + 1 ∧ v = .int .i64 u ∧ i = .int .i64 ((r : Int) - 1) ∧ val l (k + 1) = val l r + u * 128 ^ r ∧ u < 128 ^ (k + 1 - r)) (fun _ i => ((intOf i) + 1).toNat)
              case atStart => exact ⟨k + 1, 0, Nat.le_refl _, rfl, by simp, by simp, by simp⟩
              case round =>
                obtain ⟨r, u, hrk, rfl, rfl, hv, hu⟩ := hrel
                have HV := Lib.hid hv
                have HU := Lib.hid hu
                clear hv
                by_cases hr0 : r = 0
                · subst hr0
                  have HW := Lib.hid (show val l (k + 1) = u from by rw [HV.out]; simp [val])
                  have HNO2 := Lib.hid (show nextOut l most = if 1099511627776 < (u : Int) ∨ most < (u : Int) then (0, 0, 4) else (u, k + 1, 0) from by rw [HNO.out, HW.out])
                  clear hu
                  by_cases hb : 1099511627776 < (u : Int)
                  · have HR := Lib.hid (show nextOut l most = (0, 0, 4) from by rw [HNO2.out, if_pos (.inl hb)])
                    have db : decide ((1099511627776 : Int) < (u : Int)) = true := decide_eq_true hb
                    clear hb
                    go_wp2_with fail
                    go_ret3
                    exact ⟨by rw [HR.out]; rfl, rfl⟩
                  · have db : decide ((1099511627776 : Int) < (u : Int)) = false := decide_eq_false hb
                    by_cases hb2 : most < (u : Int)
                    · have HR := Lib.hid (show nextOut l most = (0, 0, 4) from by rw [HNO2.out, if_pos (.inr hb2)])
                      have db2 : decide (most < (u : Int)) = true := decide_eq_true hb2
                      clear hb hb2
                      go_wp2_with fail
                      go_ret3
                      exact ⟨by rw [HR.out]; rfl, rfl⟩
                    · have HR := Lib.hid (show nextOut l most = (u, k + 1, 0) from by rw [HNO2.out, if_neg (by omega)])
                      have db2 : decide (most < (u : Int)) = false := decide_eq_false hb2
                      clear hb hb2
                      go_wp2_with fail
                      go_ret3
                      exact ⟨by rw [HR.out]; rfl, rfl⟩
                · obtain ⟨q, rfl⟩ : ∃ q, r = q + 1 := ⟨r - 1, by omega⟩
                  have hub : u < 34359738368 := Nat.lt_of_lt_of_le hu (Nat.le_trans (Nat.pow_le_pow_right (by omega) (show k + 1 - (q + 1) ≤ 5 by omega)) (by decide))
                  have hqs : q < (str l).size := by rw [hsz]; omega
                  have dq : decide ((0 : Int) ≤ ((q + 1 : Nat) : Int) - 1) = true := by simp; try omega
                  have hqe : ((q + 1 : Nat) : Int) - 1 = (q : Int) := by omega
                  rw [hqe]
                  have hxq := (str l)[q].toNat_lt
                  have HQ := Lib.hid (getD_str l q hqs)
                  clear hu hr0
                  go_wp2_with fail
                  go_round
                  case rel =>
                    refine ⟨q, u * 128 + (l.getD q 0).toNat % 128, by omega, by rw [← HQ.out]; go_num, by go_num, ?_, ?_⟩
                    · rw [HV.out, val, Nat.pow_succ, Nat.add_mul]; 
                      have : u * (128 ^ q * 128) = u * 128 * 128 ^ q := by rw [Nat.mul_comm (128 ^ q), Nat.mul_assoc]
                      omega
                    · have e : k + 1 - q = (k + 1 - (q + 1)) + 1 := by omega
                      have := HU.out
                      rw [e, Nat.pow_succ]
                      omega
                  case measure => simp [intOf]
      · have HR := Lib.hid (next_short l most (by omega) (fun j hj => HA.out j (by omega)))
        obtain rfl : k = l.length := by omega
        have he6 : ((l.length : Int) == 6) = false := by simp; omega
        go_wp2_with fail
        go_ret3
        exact ⟨by rw [HR.out]; rfl, rfl⟩
    · obtain rfl : k = 6 := by omega
      have HR := Lib.hid (next_six l most hkl HA.out)
      go_wp2_with fail
      go_ret3
      exact ⟨by rw [HR.out]; rfl, rfl⟩
end Go.Proofs.Ytncbhpopobjaiaa

/- octet.first: the number that bytes begin with. -/
namespace Go.Proofs.Ytncbhpopobjaiaa
set_option linter.unusedVariables false
open Go.RowKit OctM

theorem u8_and127 (c : UInt8) : bits .and .u8 (c.toNat : Int) 127 = (c.toNat : Int) % 128 := by
  have := u8_and_nat c.toNat 127 c.toNat_lt (by omega)
  have h2 := Nat.and_two_pow_sub_one_eq_mod c.toNat 7
  simp only [show (2 : Nat) ^ 7 - 1 = 127 from rfl, show (2 : Nat) ^ 7 = 128 from rfl] at h2
  rw [h2] at this
  simpa using this

theorem or_step (m k : Nat) (x : UInt8) (hk : k < 6) (hm : m < 128 ^ k) : bits .or .i64 (m : Int) (wrap64 ((x.toNat : Int) % 128 * 2 ^ (7 * k))) = ((m + x.toNat % 128 * 128 ^ k : Nat) : Int) := by
  have e1 : (2 : Nat) ^ (7 * k) = 128 ^ k := by rw [Nat.pow_mul]
  have e2 : ((x.toNat : Int) % 128 * 2 ^ (7 * k)) = ((2 ^ (7 * k) * (x.toNat % 128) : Nat) : Int) := by
    push_cast; rw [Int.mul_comm]
  have b1 : (2 : Nat) ^ (7 * k) ≤ 2 ^ 35 := Nat.pow_le_pow_right (by omega) (by omega)
  have b2 : 2 ^ (7 * k) * (x.toNat % 128) ≤ 2 ^ 35 * 127 := Nat.mul_le_mul b1 (by omega)
  have b3 : m < 2 ^ (7 * k) := by rw [e1]; exact hm
  rw [e2]
  have e3 : wrap64 ((2 ^ (7 * k) * (x.toNat % 128) : Nat) : Int) = ((2 ^ (7 * k) * (x.toNat % 128) : Nat) : Int) := by
    simp only [wrap64]; omega
  rw [e3, i64_or_low (x.toNat % 128) m (7 * k) b3 (by omega), e1, Nat.mul_comm (128 ^ k)]

set_option maxRecDepth 8000 in
set_option maxHeartbeats 1600000 in
theorem oct_first (A : Option Addr) (n c : Nat) (l : List UInt8) (w : World) (B : Nat) (hn : l.length = n) (hs : Sees w B A (bvs l)) (hm : n ≤ 2097152) :
    Calls Try.prog 51 #[.slice A n c] w fun e w' => e = .returned (.tuple #[.int .i64 ((scan l 0 0).1 : Nat), .int .i64 ((scan l 0 0).2.1 : Nat), .int .i64 ((scan l 0 0).2.2 : Nat)]) ∧ w = w' := by
  obtain ⟨s0, hs0⟩ : ∃ s0, s0 = scan l 0 0 := ⟨_, rfl⟩
  rw [← hs0]
  have HS := Lib.hid hs0
  clear hs0
  subst hn
  go_enter Try.func51, Try.ntmps51
  go_wp2_with fail
  go_loop [5, 10] (fun v i => ∃ k m : Nat, k ≤ l.length ∧ k ≤ 6 ∧ i = .int .i64 k ∧ v = .int .i64 m ∧ m < 128 ^ k ∧ s0 = scan (l.drop k) k m) (fun _ i => l.length - (intOf i).toNat)
  case atStart => exact ⟨0, 0, Nat.zero_le _, Nat.zero_le _, rfl, rfl, by simp, by rw [HS.out]; rfl⟩
  case round =>
    obtain ⟨k, m, hk, hk6, rfl, rfl, hmk, hsc⟩ := hrel
    have HSC := Lib.hid hsc
    have HMK := Lib.hid hmk
    clear hsc hmk
    by_cases hlt : k < l.length
    · have hA : ∃ b o, A = some ⟨b, o, none⟩ := by
        obtain ⟨b, o, h, _⟩ := hs (by rw [bvs_length]; omega)
        exact ⟨b, o, h⟩
      obtain ⟨b, o, rfl⟩ := hA
      have hc := hs.byte k hlt
      obtain ⟨x, hx⟩ : ∃ x, x = l[k] := ⟨_, rfl⟩
      rw [← hx] at hc
      have HX := Lib.hid hx
      have hxl := x.toNat_lt
      clear hx
      have hand := u8_and127 x
      have hcons : l.drop k = x :: l.drop (k + 1) := by rw [HX.out]; exact List.drop_eq_getElem_cons hlt
      have hsc := HSC.out
      rw [hcons] at hsc
      simp only [scan] at hsc
      by_cases h6 : k = 6
      · rw [if_pos h6] at hsc
        have HR := Lib.hid hsc
        have he : ((k : Int) == 6) = true := by simp; omega
        have hK := Lib.hid h6
        clear hsc h6 hcons hk6
        go_wp2_with fail
        go_ret3
        exact ⟨by rw [HR.out]; rfl, rfl⟩
      · rw [if_neg h6] at hsc
        have hk5 : k < 6 := by omega
        have he : ((k : Int) == 6) = false := by simp; omega
        have HK := Lib.hid hk5
        clear hcons h6
        by_cases hlo : x.toNat < 128
        · rw [if_pos hlo] at hsc
          have hd : decide ((x.toNat : Int) < 128) = true := by simp; omega
          have hmod : x.toNat % 128 = x.toNat := Nat.mod_eq_of_lt hlo
          have HLO := Lib.hid hlo
          clear hlo
          by_cases hz : x.toNat = 0
          · have hd2 : ((x.toNat : Int) == 0) = true := by simp; omega
            by_cases hk0 : 0 < k
            · rw [if_pos ⟨hz, hk0⟩] at hsc
              have HR := Lib.hid hsc
              have hd3 : decide ((0 : Int) < (k : Int)) = true := by simp; omega
              have hd3' : decide (0 < k) = true := by simp; omega
              have HZ := Lib.hid hz
              have HK0 := Lib.hid hk0
              clear hsc hz hk0 hmod
              go_wp2_with fail
              go_ret3
              exact ⟨by rw [HR.out]; rfl, rfl⟩
            · rw [if_neg (fun h => hk0 h.2)] at hsc
              have HR := Lib.hid hsc
              have hd3 : decide ((0 : Int) < (k : Int)) = false := by simp; omega
              have hd3' : decide (0 < k) = false := by simp; omega
              have HZ := Lib.hid hz
              have HK0 := Lib.hid hk0
              clear hsc hz hk0 hmod
              go_wp2_with fail
              go_ret3
              refine ⟨?_, rfl⟩
              rw [HR.out, ← or_step m k x HK.out HMK.out]
              rfl
          · rw [if_neg (fun h => hz h.1)] at hsc
            have HR := Lib.hid hsc
            have hd2 : ((x.toNat : Int) == 0) = false := by simp; omega
            have HZ := Lib.hid hz
            clear hsc hz hmod
            go_wp2_with fail
            go_ret3
            refine ⟨?_, rfl⟩
            rw [HR.out, ← or_step m k x HK.out HMK.out]
            rfl
        · rw [if_neg hlo] at hsc
          have hd : decide ((x.toNat : Int) < 128) = false := by simp; omega
          have HLO := Lib.hid hlo
          have HR := Lib.hid hsc
          clear hlo hsc
          go_wp2_with fail
          go_round
          case rel =>
            refine ⟨k + 1, m + x.toNat % 128 * 128 ^ k, by omega, by omega, by go_num, by rw [or_step m k x HK.out HMK.out], ?_, HR.out⟩
            have h1 : x.toNat % 128 * 128 ^ k ≤ 127 * 128 ^ k := Nat.mul_le_mul_right _ (by omega)
            have h2 := HMK.out
            rw [Nat.pow_succ]
            omega
          case measure => simp [intOf]; omega
    · obtain rfl : k = l.length := by omega
      have hsc := HSC.out
      rw [List.drop_length] at hsc
      simp only [scan] at hsc
      by_cases h6 : 6 ≤ l.length
      · rw [if_pos h6] at hsc
        have HR := Lib.hid hsc
        have hd : decide ((6 : Int) ≤ (l.length : Int)) = true := by simp; omega
        clear hsc
        go_wp2_with fail
        go_ret3
        exact ⟨by rw [HR.out]; rfl, rfl⟩
      · rw [if_neg h6] at hsc
        have HR := Lib.hid hsc
        have hd : decide ((6 : Int) ≤ (l.length : Int)) = false := by simp; omega
        have hlt6 : l.length < 6 := by omega
        clear hsc h6
        go_wp2_with fail
        go_ret3
        exact ⟨by rw [HR.out]; rfl, rfl⟩
end Go.Proofs.Ytncbhpopobjaiaa

/- octet's Reader: what each method returns, and what it leaves. -/
namespace Go.Proofs.Ytncbhpopobjaiaa
set_option linter.unusedVariables false
open Go.RowKit OctM

/-- A reader at block g: its bytes lie below g; how many are taken; its error. -/
def Rd (w : World) (base g : Nat) (l : List UInt8) (at_ : Nat) (err : Int) : Prop :=
  ∃ A c, l.length ≤ c ∧ c ≤ maxLen ∧ Own w base 95 (.slice (some ⟨g, 0, none⟩) 3 3) [.slice A l.length c, .int .i64 at_, .int .i64 err] ∧ Sees w g A (bvs l)
theorem Rd.block {w : World} {base g : Nat} {l : List UInt8} {at_ : Nat} {err : Int} (h : Rd w base g l at_ err) : base ≤ g ∧ g < w.heap.size := by
  obtain ⟨A, c, h1, h2, h3, h4⟩ := h
  exact h3.lt g rfl

set_option maxHeartbeats 800000 in
theorem rd_new (A : Option Addr) (n c : Nat) (l : List UInt8) (w : World) (hn : l.length = n) (hs : Sees w w.heap.size A (bvs l)) (hm : n ≤ 1048576) :
    Calls Try.prog 27 #[.slice A n c] w fun e w' => ∃ g, e = .returned (.pointer (some ⟨g, 0, none⟩)) ∧ Rd w' w.heap.size g l 0 0 ∧ Below w.heap.size w w' := by
  have HF := Lib.hid (oct_fresh A n c l 0 w hn hs hm (by omega))
  have HN := Lib.hid hn
  clear hn hs
  go_enter Try.func27, Try.ntmps27
  go_wp2_with fail
  refine HF.out.mono ?_
  rintro e w1 ⟨A1, c1, rfl, o1, b1⟩
  have s1 := o1.sees
  have k1 := o1.cap
  go_wp2_with fail
  go_ret
  refine ⟨w1.heap.size, rfl, ⟨A1, c1, by rw [HN.out]; exact k1.1, k1.2, ?_, s1.alloc (Nat.le_refl _) _⟩, b1.alloc b1.size _⟩
  have h := own_lit w1 w.heap.size 95 #[.slice A1 n c1, .int .i64 0, .int .i64 0] b1.size (by simp [maxLen])
  rw [HN.out]
  exact h

theorem rd_ready (base g : Nat) (l : List UInt8) (at_ : Nat) (err : Int) (w : World) (h : Rd w base g l at_ err) :
    Calls Try.prog 50 #[.pointer (some ⟨g, 0, none⟩)] w fun e w' => e = .returned (.bool (err == 0)) ∧ w = w' := by
  obtain ⟨A, c, hlc, hcm, ho, hs⟩ := h
  have h2 := ho.cell 2 (by simp)
  simp only [List.getElem_cons_succ, List.getElem_cons_zero] at h2
  clear ho hs
  go_enter Try.func50, Try.ntmps50
  go_wp2_with fail
  go_ret
  exact ⟨rfl, rfl⟩
theorem drewN_grown (w : World) (k : Nat) (row : Option Nat) : w.grownBy (w.drewN k) row := ⟨rfl, rfl, rfl, Nat.le_refl _, fun _ _ _ => rfl⟩
theorem Rd.drewN {w : World} {base g : Nat} {l : List UInt8} {at_ : Nat} {err : Int} (h : Rd w base g l at_ err) (k : Nat) : Rd (w.drewN k) base g l at_ err := by
  obtain ⟨A, c, h1, h2, h3, h4⟩ := h
  exact ⟨A, c, h1, h2, h3.drewN k, h4.drewN k⟩
theorem Rd.put_err {w : World} {base g : Nat} {l : List UInt8} {at_ : Nat} {err : Int} (h : Rd w base g l at_ err) (e : Int) :
    Rd (w.setCell ⟨g, 2, none⟩ (.int .i64 e)) base g l at_ e ∧ w.grownBy (w.setCell ⟨g, 2, none⟩ (.int .i64 e)) (some g) := by
  obtain ⟨A, c, h1, h2, h3, h4⟩ := h
  have h5 := World.ownsRow.stored (h3 : w.ownsRow _ _ _ _ _ _) 2 (.int .i64 e)
  exact ⟨⟨A, c, h1, h2, h5.1, h4.setCell (Nat.le_refl _) _⟩, h5.2⟩
theorem Rd.put_at {w : World} {base g : Nat} {l : List UInt8} {at_ : Nat} {err : Int} (h : Rd w base g l at_ err) (n : Nat) :
    Rd (w.setCell ⟨g, 1, none⟩ (.int .i64 n)) base g l n err ∧ w.grownBy (w.setCell ⟨g, 1, none⟩ (.int .i64 n)) (some g) := by
  obtain ⟨A, c, h1, h2, h3, h4⟩ := h
  have h5 := World.ownsRow.stored (h3 : w.ownsRow _ _ _ _ _ _) 1 (.int .i64 n)
  exact ⟨⟨A, c, h1, h2, h5.1, h4.setCell (Nat.le_refl _) _⟩, h5.2⟩

/-- What taking a number gives: the number, how many bytes are taken then, the error then. -/
def numOut (l : List UInt8) (at_ : Nat) (err most : Int) : Nat × Nat × Int :=
  if err ≠ 0 then (0, at_, err)
  else if (scan (l.drop at_) 0 0).2.2 ≠ 0 then (0, at_, ((scan (l.drop at_) 0 0).2.2 : Nat))
  else if 1099511627776 < ((scan (l.drop at_) 0 0).1 : Int) ∨ most < ((scan (l.drop at_) 0 0).1 : Int) then (0, at_, 4)
  else ((scan (l.drop at_) 0 0).1, at_ + (scan (l.drop at_) 0 0).2.1, 0)
theorem scan_size : ∀ (l : List UInt8) (i v : Nat), (scan l i v).2.1 ≤ i + l.length
  | [], i, v => by unfold scan; split <;> simp
  | c :: l, i, v => by
    unfold scan
    have := scan_size l (i + 1) (v + c.toNat % 128 * 128 ^ i)
    split
    · simp
    · split
      · split <;> simp
      · simp; omega

set_option maxHeartbeats 1600000 in
theorem rd_num (base g : Nat) (l : List UInt8) (at_ : Nat) (err most : Int) (w : World) (h : Rd w base g l at_ err) (ha : at_ ≤ l.length) (hm : l.length ≤ 2097152) :
    Calls Try.prog 28 #[.pointer (some ⟨g, 0, none⟩), .int .i64 most] w fun e w' =>
      e = .returned (.int .i64 ((numOut l at_ err most).1 : Nat)) ∧ Rd w' base g l (numOut l at_ err most).2.1 (numOut l at_ err most).2.2 ∧ w.grownBy w' (some g) := by
  obtain ⟨i0, hi, hz0, hz1, hz2⟩ := oct_parts
  have HRD := Lib.hid h
  have HRY := Lib.hid (rd_ready base g l at_ err w h)
  obtain ⟨A, c, hlc, hcm, ho, hs⟩ := h
  have h0 := ho.cell 0 (by simp)
  have h1 := ho.cell 1 (by simp)
  have h2 := ho.cell 2 (by simp)
  have f1 := ho.frozen 1
  have f2 := ho.frozen 2
  simp only [List.getElem_cons_succ, List.getElem_cons_zero] at h0 h1 h2
  clear ho
  by_cases he : err = 0
  · subst he
    obtain ⟨A2, hcut, hs2⟩ := cut_fact (P := Try.prog) 62 5 i0 Try.underlying62 hi hz1 hs l.length (l.length - at_) at_ c (at_ : Int) .i64 (bvs_length l) (by omega) rfl hlc
    rw [show (bvs l).drop at_ = bvs (l.drop at_) from by simp [bvs]] at hs2
    have HL := Lib.hid (show (l.drop at_).length = l.length - at_ from by simp)
    obtain ⟨q, hq⟩ : ∃ q, q = l.length - at_ := ⟨_, rfl⟩
    rw [← hq] at hcut HL
    have hql : q + at_ = l.length := by omega
    clear hq
    obtain ⟨cc, hcc⟩ : ∃ cc, cc = c - at_ := ⟨_, rfl⟩
    rw [← hcc] at hcut
    clear hcc
    obtain ⟨v, hv⟩ : ∃ v, v = (scan (l.drop at_) 0 0).1 := ⟨_, rfl⟩
    obtain ⟨sz, hsz⟩ : ∃ sz, sz = (scan (l.drop at_) 0 0).2.1 := ⟨_, rfl⟩
    obtain ⟨er, her⟩ : ∃ er, er = (scan (l.drop at_) 0 0).2.2 := ⟨_, rfl⟩
    have hszl : sz ≤ q := by
      have := scan_size (l.drop at_) 0 0
      rw [← hsz, HL.out] at this
      omega
    have HF := Lib.hid (fun k : Nat => (oct_first A2 q cc (l.drop at_) (w.drewN k) g HL.out (hs2.drewN k) (by omega)).mono (fun _ _ h => (⟨h.1, h.2.symm⟩ : _ ∧ _)))
    rw [← hv, ← hsz, ← her] at HF
    have HV := Lib.hid hv
    have HSZ := Lib.hid hsz
    have HER := Lib.hid her
    clear hv hsz her hs hs2
    by_cases h3 : er = 0
    · have d3 : ((er : Int) == 0) = true := by simp; omega
      have d3n : ((er : Int) != 0) = false := by simp; omega
      have HE3 := Lib.hid h3
      by_cases h4 : 1099511627776 < (v : Int)
      · have HO := Lib.hid (show numOut l at_ 0 most = (0, at_, 4) from by
          unfold numOut
          rw [if_neg (by simp), if_neg (by rw [← HER.out]; simpa using h3), if_pos (by rw [← HV.out]; exact .inl h4)])
        have d4 : decide ((1099511627776 : Int) < (v : Int)) = true := by simpa using h4
        clear h3 h4
        go_enter Try.func28, Try.ntmps28
        go_wp2_with fail
        refine HRY.out.mono ?_
        rintro e wx ⟨rfl, rfl⟩
        rw [show ((0 : Int) == 0) = true from rfl]
        go_wp2_with fail
        go_quiet (first | (go_at_call 51; refine Calls.quiet_of_same (HF.out _)))
        go_wp2_with fail
        go_ret
        rw [HO.out]
        exact ⟨rfl, ((HRD.out.drewN _).put_err 4).1, (drewN_grown _ _ _).trans ((HRD.out.drewN _).put_err 4).2⟩
      · have d4 : decide ((1099511627776 : Int) < (v : Int)) = false := by simp; omega
        by_cases h5 : most < (v : Int)
        · have HO := Lib.hid (show numOut l at_ 0 most = (0, at_, 4) from by
            unfold numOut
            rw [if_neg (by simp), if_neg (by rw [← HER.out]; simpa using h3), if_pos (by rw [← HV.out]; exact .inr h5)])
          have d5 : decide (most < (v : Int)) = true := by simpa using h5
          clear h3 h4 h5
          go_enter Try.func28, Try.ntmps28
          go_wp2_with fail
          refine HRY.out.mono ?_
          rintro e wx ⟨rfl, rfl⟩
          rw [show ((0 : Int) == 0) = true from rfl]
          go_wp2_with fail
          go_quiet (first | (go_at_call 51; refine Calls.quiet_of_same (HF.out _)))
          go_wp2_with fail
          go_ret
          rw [HO.out]
          exact ⟨rfl, ((HRD.out.drewN _).put_err 4).1, (drewN_grown _ _ _).trans ((HRD.out.drewN _).put_err 4).2⟩
        · have HO := Lib.hid (show numOut l at_ 0 most = (v, at_ + sz, 0) from by
            unfold numOut
            rw [if_neg (by simp), if_neg (by rw [← HER.out]; simpa using h3), if_neg (by rw [← HV.out]; omega), ← HV.out, ← HSZ.out])
          have d5 : decide (most < (v : Int)) = false := by simp; omega
          clear h4 h5
          subst h3
          clear d3 d3n
          go_enter Try.func28, Try.ntmps28
          go_wp2_with fail
          refine HRY.out.mono ?_
          rintro e wx ⟨rfl, rfl⟩
          rw [show ((0 : Int) == 0) = true from rfl]
          go_wp2_with fail
          go_quiet (first | (go_at_call 51; refine Calls.quiet_of_same (HF.out _)))
          go_wp2_with fail
          go_ret
          rw [HO.out]
          exact ⟨rfl, ((HRD.out.drewN _).put_at (at_ + sz)).1, (drewN_grown _ _ _).trans ((HRD.out.drewN _).put_at (at_ + sz)).2⟩
    · have HO := Lib.hid (show numOut l at_ 0 most = (0, at_, (er : Int)) from by
        unfold numOut
        rw [if_neg (by simp), if_pos (by rw [← HER.out]; exact h3), ← HER.out])
      have d3 : ((er : Int) == 0) = false := by simp; omega
      have d3n : ((er : Int) != 0) = true := by simp; omega
      have HE3 := Lib.hid h3
      clear h3
      go_enter Try.func28, Try.ntmps28
      go_wp2_with fail
      refine HRY.out.mono ?_
      rintro e wx ⟨rfl, rfl⟩
      rw [show ((0 : Int) == 0) = true from rfl]
      go_wp2_with fail
      go_quiet (first | (go_at_call 51; refine Calls.quiet_of_same (HF.out _)))
      go_wp2_with fail
      go_ret
      rw [HO.out]
      exact ⟨rfl, ((HRD.out.drewN _).put_err er).1, (drewN_grown _ _ _).trans ((HRD.out.drewN _).put_err er).2⟩
  · have hd : (err == 0) = false := by simpa using he
    have HO := Lib.hid (show numOut l at_ err most = (0, at_, err) from by unfold numOut; rw [if_pos he])
    clear he h0 h1 h2 f1 f2 hs
    go_enter Try.func28, Try.ntmps28
    go_wp2_with fail
    refine HRY.out.mono ?_
    rintro e wx ⟨rfl, rfl⟩
    rw [hd]
    go_wp2
    go_ret
    rw [HO.out]
    exact ⟨rfl, HRD.out, World.grownBy.refl w _⟩
end Go.Proofs.Ytncbhpopobjaiaa

/- octet's Reader: texts and truths. -/
namespace Go.Proofs.Ytncbhpopobjaiaa
set_option linter.unusedVariables false
open Go.RowKit OctM

/-- s[k:k+m]: what the cut is, under one name. -/
theorem cut2_fact {P : Program} (t e : TypeId) (i : TypeInfo) (ht : P.underlying t = some (.slice e)) (hi : P.info? e = some i) (hsz : i.size = 1) {w : World} {B : Nat} {A : Option Addr} {xs : List Value} (h : Sees w B A xs)
    (n k m c : Nat) (K H : Int) (kl kh : IntKind) (hn : xs.length = n) (hkm : k + m ≤ n) (hK : K = (k : Int)) (hH : H = ((k + m : Nat) : Int)) (hc : n ≤ c) :
    ∃ A2, (∀ wx, (Instr.slice t (.slice A n c) (some (.int kl K)) (some (.int kh H)) none).run P wx = .ok (.slice A2 m (c - k)) wx) ∧ Sees w B A2 ((xs.drop k).take m) := by
  refine ⟨if c = k then A else A.map (·.add k), fun wx => ?_, (h.cut (by omega)).take m⟩
  have he : P.elem t = e := by simp [Program.elem, ht]
  have ht' : P.underlying t = some (.slice (P.elem t)) := by rw [he]; exact ht
  rw [run_slice_lh wx t A n c ht' kl kh K H (by omega) (by omega) (by omega), he]
  simp [sizeOf, typeInfo, hi, hsz, sliced, hK, hH]
  try omega

/-- What a reader's block holds. -/
theorem Rd.facts {w : World} {base g : Nat} {l : List UInt8} {at_ : Nat} {err : Int} (h : Rd w base g l at_ err) :
    ∃ A c, l.length ≤ c ∧ c ≤ maxLen ∧ w.cell? ⟨g, 0, none⟩ = some (.slice A l.length c) ∧ w.cell? ⟨g, 1, none⟩ = some (.int .i64 at_) ∧ w.cell? ⟨g, 2, none⟩ = some (.int .i64 err) ∧
      w.frozen? ⟨g, 1, none⟩ = false ∧ w.frozen? ⟨g, 2, none⟩ = false ∧ Sees w g A (bvs l) := by
  obtain ⟨A, c, hlc, hcm, ho, hs⟩ := h
  have h0 := ho.cell 0 (by simp)
  have h1 := ho.cell 1 (by simp)
  have h2 := ho.cell 2 (by simp)
  simp only [List.getElem_cons_succ, List.getElem_cons_zero] at h0 h1 h2
  exact ⟨A, c, hlc, hcm, h0, h1, h2, ho.frozen 1, ho.frozen 2, hs⟩

theorem numOut_at (l : List UInt8) (at_ : Nat) (err most : Int) (ha : at_ ≤ l.length) : (numOut l at_ err most).2.1 ≤ l.length := by
  have := scan_size (l.drop at_) 0 0
  rw [List.length_drop] at this
  unfold numOut
  split
  · exact ha
  · split
    · exact ha
    · split
      · exact ha
      · simp; omega

/-- What taking a truth gives. -/
def flagOut (l : List UInt8) (at_ : Nat) (err : Int) : Bool × Nat × Int :=
  if err ≠ 0 then (false, at_, err)
  else if 1 < (numOut l at_ 0 1099511627776).1 then (false, at_, 3)
  else (decide ((numOut l at_ 0 1099511627776).1 = 1), (numOut l at_ 0 1099511627776).2)

end Go.Proofs.Ytncbhpopobjaiaa

/- octet's Reader: a text. -/
namespace Go.Proofs.Ytncbhpopobjaiaa
set_option linter.unusedVariables false
open Go.RowKit OctM

/-- What taking a text gives. -/
def strOut (l : List UInt8) (at_ : Nat) (err most : Int) : List UInt8 × Nat × Int :=
  if err ≠ 0 then ([], at_, err)
  else if (numOut l at_ 0 most).2.2 ≠ 0 then ([], (numOut l at_ 0 most).2)
  else if l.length < (numOut l at_ 0 most).2.1 + (numOut l at_ 0 most).1 then ([], at_, 2)
  else ((l.drop (numOut l at_ 0 most).2.1).take (numOut l at_ 0 most).1, (numOut l at_ 0 most).2.1 + (numOut l at_ 0 most).1, 0)

end Go.Proofs.Ytncbhpopobjaiaa

/- octet's Reader: Fail, End; and of no reader. -/
namespace Go.Proofs.Ytncbhpopobjaiaa
set_option linter.unusedVariables false
open Go.RowKit OctM

/-- The error once another one is noted. -/
def failOut (err e : Int) : Int := if err = 0 then e else err
/-- The first error, or that bytes are left. -/
def endOut (n at_ : Nat) (err : Int) : Int := if err ≠ 0 then err else if at_ < n then 3 else 0
end Go.Proofs.Ytncbhpopobjaiaa

/- octet's Reader: what each method returns where there is no reader. -/
namespace Go.Proofs.Ytncbhpopobjaiaa
set_option linter.unusedVariables false
open Go.RowKit OctM

theorem nil_ready (w : World) : Calls Try.prog 50 #[.pointer none] w fun e w' => e = .returned (.bool false) ∧ w = w' := by
  go_enter Try.func50, Try.ntmps50
  go_wp2_with fail
  go_returns
  exact ⟨rfl, rfl⟩
theorem nil_num (w : World) (most : Int) : Calls Try.prog 28 #[.pointer none, .int .i64 most] w fun e w' => e = .returned (.int .i64 0) ∧ w = w' := by
  go_enter Try.func28, Try.ntmps28
  go_wp2_with fail
  refine (nil_ready _).mono ?_
  rintro e wx ⟨rfl, rfl⟩
  go_wp2_with fail
  go_returns
  exact ⟨rfl, rfl⟩
end Go.Proofs.Ytncbhpopobjaiaa

/- The document's reader: what each method returns, and what it leaves. -/
namespace Go.Proofs.Ytncbhpopobjaiaa
set_option linter.unusedVariables false
open Go.RowKit OctM

/-- The document's reader at block g: what is left, and the error. -/
def Rr (w : World) (base g : Nat) (l : List UInt8) (err : Int) : Prop :=
  Own w base 72 (.slice (some ⟨g, 0, none⟩) 2 2) [.string (str l), .int .i64 err]
theorem Rr.facts {w : World} {base g : Nat} {l : List UInt8} {err : Int} (h : Rr w base g l err) :
    w.cell? ⟨g, 0, none⟩ = some (.string (str l)) ∧ w.cell? ⟨g, 1, none⟩ = some (.int .i64 err) ∧ w.frozen? ⟨g, 0, none⟩ = false ∧ w.frozen? ⟨g, 1, none⟩ = false := by
  have h0 := Own.cell h 0 (by simp)
  have h1 := Own.cell h 1 (by simp)
  simp only [List.getElem_cons_succ, List.getElem_cons_zero] at h0 h1
  exact ⟨h0, h1, Own.frozen h 0, Own.frozen h 1⟩
theorem Rr.drewN {w : World} {base g : Nat} {l : List UInt8} {err : Int} (h : Rr w base g l err) (k : Nat) : Rr (w.drewN k) base g l err := Own.drewN h k
theorem Rr.put_err {w : World} {base g : Nat} {l : List UInt8} {err : Int} (h : Rr w base g l err) (e : Int) :
    Rr (w.setCell ⟨g, 1, none⟩ (.int .i64 e)) base g l e ∧ w.grownBy (w.setCell ⟨g, 1, none⟩ (.int .i64 e)) (some g) :=
  World.ownsRow.stored (h : w.ownsRow _ _ _ _ _ _) 1 (.int .i64 e)
theorem Rr.put_str {w : World} {base g : Nat} {l : List UInt8} {err : Int} (h : Rr w base g l err) (l' : List UInt8) :
    Rr (w.setCell ⟨g, 0, none⟩ (.string (str l'))) base g l' err ∧ w.grownBy (w.setCell ⟨g, 0, none⟩ (.string (str l'))) (some g) :=
  World.ownsRow.stored (h : w.ownsRow _ _ _ _ _ _) 0 (.string (str l'))
theorem str_cut (l : List UInt8) (k : Nat) : (str l).extract k (str l).size = str (l.drop k) := by
  apply ByteArray.ext
  have hsz : (str l).size = l.length := str_size l
  rw [hsz]
  apply Array.ext'
  simp [str, ByteArray.data_extract, List.take_of_length_le]
theorem nextOut_size (l : List UInt8) (most : Int) : (nextOut l most).2.1 ≤ l.length := by
  have := scan_size l 0 0
  unfold nextOut
  split
  · simp
  · split
    · simp
    · omega

/-- What the document's Num gives: the number, what is left, the error. -/
def rnumOut (l : List UInt8) (err most : Int) : Nat × List UInt8 × Int :=
  if err ≠ 0 then (0, l, err) else ((nextOut l most).1, l.drop (nextOut l most).2.1, ((nextOut l most).2.2 : Nat))
set_option maxHeartbeats 800000 in
theorem rr_num (base g : Nat) (l : List UInt8) (err most : Int) (w : World) (h : Rr w base g l err) (hm : l.length ≤ 2097152) :
    Calls Try.prog 30 #[.pointer (some ⟨g, 0, none⟩), .int .i64 most] w fun e w' =>
      e = .returned (.int .i64 ((rnumOut l err most).1 : Nat)) ∧ Rr w' base g (rnumOut l err most).2.1 (rnumOut l err most).2.2 ∧ w.grownBy w' (some g) := by
  have HRD := Lib.hid h
  obtain ⟨h0, h1, f0, f1⟩ := h.facts
  have hsz := str_size l
  clear h
  by_cases he : err = 0
  · have hd : (err != 0) = false := by simpa using he
    have HNX := Lib.hid (fun wx : World => ref_next l most wx hm)
    have hns := nextOut_size l most
    have HO := Lib.hid (show rnumOut l err most = ((nextOut l most).1, l.drop (nextOut l most).2.1, (((nextOut l most).2.2 : Nat) : Int)) from by unfold rnumOut; rw [if_neg (by simpa using he)])
    obtain ⟨o, ho⟩ : ∃ o, o = nextOut l most := ⟨_, rfl⟩
    rw [← ho] at HNX HO hns
    obtain ⟨v, n, er⟩ := o
    simp only at HNX HO hns
    have HC := Lib.hid (str_cut l n)
    clear he ho
    go_enter Try.func30, Try.ntmps30
    go_wp2_with fail
    refine (HNX.out _).mono ?_
    rintro e wx ⟨rfl, rfl⟩
    go_wp2_with fail
    go_ret
    rw [HO.out, show (str l).extract n l.length = str (l.drop n) from by rw [← HC.out, hsz]]
    exact ⟨rfl, ((HRD.out.put_err er).1.put_str (l.drop n)).1, (HRD.out.put_err er).2.trans ((HRD.out.put_err er).1.put_str (l.drop n)).2⟩
  · have hd : (err != 0) = true := by simpa using he
    have HO := Lib.hid (show rnumOut l err most = (0, l, err) from by unfold rnumOut; rw [if_pos he])
    clear he
    go_enter Try.func30, Try.ntmps30
    go_wp2_with fail
    go_ret
    rw [HO.out]
    exact ⟨rfl, HRD.out, World.grownBy.refl w _⟩
end Go.Proofs.Ytncbhpopobjaiaa

/- The document's reader: Flag, End. -/
namespace Go.Proofs.Ytncbhpopobjaiaa
set_option linter.unusedVariables false
open Go.RowKit OctM

/-- What the document's Flag gives. -/
def rflagOut (l : List UInt8) (err : Int) : Bool × List UInt8 × Int :=
  if err ≠ 0 then (false, l, err)
  else if (nextOut l 1099511627776).2.2 ≠ 0 then (false, l, ((nextOut l 1099511627776).2.2 : Nat))
  else if 1 < (nextOut l 1099511627776).1 then (false, l, 3)
  else (decide ((nextOut l 1099511627776).1 = 1), l.drop (nextOut l 1099511627776).2.1, 0)
end Go.Proofs.Ytncbhpopobjaiaa

/- The document's reader: Str. -/
namespace Go.Proofs.Ytncbhpopobjaiaa
set_option linter.unusedVariables false
open Go.RowKit OctM

theorem str_mid (l : List UInt8) (a b : Nat) : (str l).extract a (a + b) = str ((l.drop a).take b) := by
  apply ByteArray.ext
  apply Array.ext'
  simp [str, ByteArray.data_extract]
/-- What the document's Str gives. -/
def rstrOut (l : List UInt8) (err most : Int) : List UInt8 × List UInt8 × Int :=
  if err ≠ 0 then ([], l, err)
  else if (nextOut l most).2.2 ≠ 0 then ([], l, ((nextOut l most).2.2 : Nat))
  else if l.length < (nextOut l most).2.1 + (nextOut l most).1 then ([], l, 2)
  else ((l.drop (nextOut l most).2.1).take (nextOut l most).1, l.drop ((nextOut l most).2.1 + (nextOut l most).1), 0)
end Go.Proofs.Ytncbhpopobjaiaa

/- The document's reader: End. -/
namespace Go.Proofs.Ytncbhpopobjaiaa
set_option linter.unusedVariables false
open Go.RowKit OctM

end Go.Proofs.Ytncbhpopobjaiaa

/- The program's reader and the document's answer alike. -/
namespace Go.Proofs.Ytncbhpopobjaiaa
set_option linter.unusedVariables false
open Go.RowKit OctM

theorem next_num (l : List UInt8) (at_ : Nat) (most : Int) :
    nextOut (l.drop at_) most = ((numOut l at_ 0 most).1, (numOut l at_ 0 most).2.1 - at_, (numOut l at_ 0 most).2.2.toNat) ∧ at_ ≤ (numOut l at_ 0 most).2.1 ∧ 0 ≤ (numOut l at_ 0 most).2.2 ∧
    ((numOut l at_ 0 most).2.2 ≠ 0 → (numOut l at_ 0 most).1 = 0 ∧ (numOut l at_ 0 most).2.1 = at_) := by
  unfold nextOut numOut
  rw [if_neg (show ¬ ((0 : Int) ≠ 0) by simp)]
  generalize scan (l.drop at_) 0 0 = s
  obtain ⟨v, n, e⟩ := s
  by_cases h1 : e = 0
  · subst h1
    by_cases h2 : 1099511627776 < (v : Int) ∨ most < (v : Int)
    · simp [h2]
    · simp [h2]
  · simp [h1]
theorem same_num (l : List UInt8) (at_ : Nat) (err most : Int) :
    rnumOut (l.drop at_) err most = ((numOut l at_ err most).1, l.drop (numOut l at_ err most).2.1, (numOut l at_ err most).2.2) := by
  by_cases he : err = 0
  · subst he
    obtain ⟨h1, h2, h3, h4⟩ := next_num l at_ most
    unfold rnumOut
    rw [if_neg (by simp), h1]
    generalize numOut l at_ 0 most = o at *
    obtain ⟨v, a, e⟩ := o
    simp only at *
    rw [List.drop_drop, show at_ + (a - at_) = a by omega, Int.toNat_of_nonneg h3]
  · unfold rnumOut numOut
    rw [if_pos he, if_pos he]
theorem same_flag (l : List UInt8) (at_ : Nat) (err : Int) :
    rflagOut (l.drop at_) err = ((flagOut l at_ err).1, l.drop (flagOut l at_ err).2.1, (flagOut l at_ err).2.2) := by
  by_cases he : err = 0
  · subst he
    obtain ⟨h1, h2, h3, h4⟩ := next_num l at_ 1099511627776
    unfold rflagOut flagOut
    simp only [ne_eq, not_true_eq_false, if_false]
    rw [h1]
    generalize numOut l at_ 0 1099511627776 = o at *
    obtain ⟨v, a, e⟩ := o
    simp only at *
    by_cases h5 : e = 0
    · subst h5
      simp only [Int.toNat_zero, not_true_eq_false, if_false]
      by_cases h6 : 1 < v
      · simp [h6]
      · rw [if_neg h6, if_neg h6, List.drop_drop, show at_ + (a - at_) = a by omega]
    · obtain ⟨rfl, rfl⟩ := h4 h5
      rw [if_pos (by omega)]
      simp [Int.toNat_of_nonneg h3]
  · unfold rflagOut flagOut
    rw [if_pos he, if_pos he]
theorem same_str (l : List UInt8) (at_ : Nat) (err most : Int) (ha : at_ ≤ l.length) :
    rstrOut (l.drop at_) err most = ((strOut l at_ err most).1, l.drop (strOut l at_ err most).2.1, (strOut l at_ err most).2.2) := by
  by_cases he : err = 0
  · subst he
    obtain ⟨h1, h2, h3, h4⟩ := next_num l at_ most
    unfold rstrOut strOut
    simp only [ne_eq, not_true_eq_false, if_false]
    rw [h1]
    generalize numOut l at_ 0 most = o at *
    obtain ⟨v, a, e⟩ := o
    simp only at *
    by_cases h5 : e = 0
    · subst h5
      simp only [Int.toNat_zero, not_true_eq_false, if_false]
      rw [List.length_drop]
      by_cases h6 : l.length < a + v
      · rw [if_pos (by omega), if_pos h6]
      · rw [if_neg (by omega), if_neg h6, List.drop_drop, List.drop_drop, show at_ + (a - at_) = a by omega, show at_ + (a - at_ + v) = a + v by omega]
    · obtain ⟨rfl, rfl⟩ := h4 h5
      rw [if_pos (by omega), if_pos h5]
      simp [Int.toNat_of_nonneg h3]
  · unfold rstrOut strOut
    rw [if_pos he, if_pos he]
theorem same_end (l : List UInt8) (at_ : Nat) (err : Int) (ha : at_ ≤ l.length) : endOut (l.drop at_).length 0 err = endOut l.length at_ err := by
  unfold endOut
  rw [List.length_drop]
  by_cases h : at_ < l.length
  · rw [if_pos (show 0 < l.length - at_ by omega), if_pos h]
  · rw [if_neg (show ¬ 0 < l.length - at_ by omega), if_neg h]
end Go.Proofs.Ytncbhpopobjaiaa

/- What each frame of this seat asks once. -/
namespace Go.Proofs.Ytncbhpopobjaiaa
theorem own : ownKnob Try.prog.godebug = none := by kernel_rfl
theorem laidOut : laidOutB Try.prog = true := by kernel_rfl
theorem boolT : Try.prog.underlying 4 = some .bool := Try.underlying4
end Go.Proofs.Ytncbhpopobjaiaa

/- OctetBack: what was put is read, whatever stands behind it: for every input. No condition. -/
namespace Go.Proofs.Ytncbhpopobjaiaa
set_option linter.unusedVariables false
open Go.ChangeShapes Go.WideShapes Go.ChangeAt Go.RowKit OctM
open Go.ChangeMaps (open_string shut_string)

theorem num_put (pre rest : List UInt8) (n : Nat) (most : Int) (hn : n ≤ 1099511627776) (hm : (n : Int) ≤ most) :
    numOut (pre ++ (enc n ++ rest)) pre.length 0 most = (n, pre.length + (enc n).length, 0) := by
  unfold numOut
  rw [List.drop_left, scan_put n hn]
  rw [if_neg (by simp), if_neg (by simp), if_neg (by simp; omega)]
theorem str_put (pre t rest : List UInt8) (most : Int) (hn : t.length ≤ 1099511627776) (hm : (t.length : Int) ≤ most) :
    strOut (pre ++ (enc t.length ++ (t ++ rest))) pre.length 0 most = (t, pre.length + (enc t.length).length + t.length, 0) := by
  unfold strOut
  rw [num_put pre (t ++ rest) t.length most hn hm]
  rw [if_neg (by simp), if_neg (by simp), if_neg (by simp; omega)]
  have e1 : pre ++ (enc t.length ++ (t ++ rest)) = (pre ++ enc t.length) ++ (t ++ rest) := by simp
  have e2 : pre.length + (enc t.length).length = (pre ++ enc t.length).length := by simp
  simp only [e1, e2, List.drop_left, List.take_left]
theorem flag_put (pre rest : List UInt8) (b : Bool) :
    flagOut (pre ++ (enc (truth b) ++ rest)) pre.length 0 = (b, pre.length + (enc (truth b)).length, 0) := by
  unfold flagOut
  rw [num_put pre rest (truth b) 1099511627776 (by cases b <;> simp [truth]) (by cases b <;> simp [truth])]
  rw [if_neg (by simp), if_neg (by cases b <;> simp [truth])]
  cases b <;> simp [truth]

theorem awake_num : numOut [128, 0] 0 0 9 = (0, 0, 3) := by
  simp [numOut, scan]
theorem enc300 : enc (held 300) = [172, 2] := by
  rw [show held 300 = 300 from by simp [held]; rfl, enc_high (by omega), enc_low (by omega)]
  rfl

theorem Rd.below {w w' : World} {base g : Nat} {l : List UInt8} {at_ : Nat} {err : Int} (h : Rd w base g l at_ err) (hb : Below w.heap.size w w') : Rd w' base g l at_ err := by
  have hg := h.block.2
  obtain ⟨A, c, h1, h2, h3, h4⟩ := h
  refine ⟨A, c, h1, h2, ?_, h4.below (hb.mono (Nat.le_of_lt hg))⟩
  refine ⟨h3.1, ?_⟩
  rcases h3.2 with ⟨hv, _⟩ | ⟨g', cap, cur, hv, hb', hh, h5⟩
  · cases hv
  · have e1 : g = g' := by injection hv with hv; injection hv with hv; injection hv
    subst e1
    exact .inr ⟨g, cap, cur, hv, hb', by rw [hb.block g hg]; exact hh, h5⟩

theorem sees_on {w w' : World} {A : Option Addr} {xs : List Value} (h : Sees w w.heap.size A xs) (hb : Below w.heap.size w w') : Sees w' w'.heap.size A xs := (h.below hb).more hb.size
theorem on_below {w w1 w2 : World} (h : Below w.heap.size w w1) (h2 : Below w1.heap.size w1 w2) : Below w.heap.size w w2 := h.trans (h2.mono h.size)
theorem grown_on {w w1 w2 : World} {base g : Nat} {l : List UInt8} {a : Nat} {e : Int} (h : Below w.heap.size w w1) (hr : Rd w1 base g l a e) (hb : w.heap.size ≤ base) (hg : w1.grownBy w2 (some g)) : Below w.heap.size w w2 :=
  h.grown hg h.size (fun k hk => by cases hk; have := hr.block.1; omega)

end Go.Proofs.Ytncbhpopobjaiaa

/- A list of pairs of integers that comes in: what the frame gives of it. -/
namespace Go.Proofs.Ytncbhpopobjaiaa
set_option linter.unusedVariables false
open Go.ChangeShapes Go.WideShapes Go.ChangeAt Go.RowKit

/-- A slice of pairs, seen as a list. -/
def SeesP (w : World) (B : Nat) (A : Option Addr) (l : List (Int × Int)) : Prop :=
  0 < l.length → ∃ b o, A = some ⟨b, o, none⟩ ∧ b < B ∧ ∀ j (hj : j < l.length), w.cell? ⟨b, o + j * 2, none⟩ = some (.int .i64 l[j].1) ∧ w.cell? ⟨b, o + j * 2 + 1, none⟩ = some (.int .i64 l[j].2)
theorem SeesP.below {w w' : World} {B : Nat} {A : Option Addr} {l : List (Int × Int)} (h : SeesP w B A l) (hb : Below B w w') : SeesP w' B A l := fun h0 => by
  obtain ⟨b, o, e, hlt, hc⟩ := h h0
  exact ⟨b, o, e, hlt, fun j hj => ⟨(hb.cell (p := ⟨b, o + j * 2, none⟩) hlt).trans (hc j hj).1, (hb.cell (p := ⟨b, o + j * 2 + 1, none⟩) hlt).trans (hc j hj).2⟩⟩

/-- The pair that a datum is. -/
def pairOf {H : Type} : DataW H → Int × Int
  | .agg [.lit (.int _ a), .lit (.int _ b)] => (a, b)
  | _ => (0, 0)
theorem open_pairs {H : Type} {enc : TypeId × Value → H} {P : Program} {t e : TypeId} {f0 f1 : Field} {W : World} {v : Value} {d : DataW H} {ps : List MemPlace}
    (ht : P.underlying t = some (.slice e)) (hs : P.underlying e = some (.struct #[f0, f1])) (hC : P.cellsOf e = 2)
    (h0 : P.underlying f0.type = some (.int .i64)) (o0 : f0.offset = 0) (c0 : P.cellsOf f0.type = 1) (h1 : P.underlying f1.type = some (.int .i64)) (o1 : f1.offset = 1) (c1 : P.cellsOf f1.type = 1)
    {r : Reach} {base : Nat} (hv : Value.okWide P W r base t v) (h : DataW.Trod enc P W 0 (fun _ => true) true t v d ps) :
    ∃ A n c, ∃ l : List (Int × Int), v = .slice A n c ∧ n ≤ c ∧ c ≤ maxLen ∧ l.length = n ∧ SeesP W W.heap.size A l := by
  obtain ⟨A, n, c, rfl⟩ := okWide_slice ht hv
  obtain ⟨fuel, hf⟩ := h
  have hlt := DataW.trod_lt fuel _ _ _ hf
  rcases DataW.trod_slice ht hf with ⟨hcs, hx⟩ | ⟨x, len, cap, elems, rest, m, _, hcs, hx, hb, hl, hm, hlen, hel, _⟩
  · simp [Value.cells] at hcs
    obtain ⟨rfl, rfl, rfl⟩ := hcs
    exact ⟨none, 0, 0, [], rfl, Nat.le_refl _, by simp [maxLen], rfl, fun h => absurd h (by simp)⟩
  · simp [Value.cells] at hcs
    obtain ⟨rfl, rfl, rfl⟩ := hcs
    refine ⟨some x, n, c, elems.map (fun y => pairOf y.1), rfl, hl, hm, by simp [hlen], fun hpos => ?_⟩
    have each : ∀ j (hj : j < n), ∃ a b, elems[j]? = some (.agg [.lit (.int .i64 a), .lit (.int .i64 b)], []) ∧ W.cell? ((x.add (j * 2)).add 0) = some (.int .i64 a) ∧ W.cell? ((x.add (j * 2)).add 1) = some (.int .i64 b) := by
      intro j hj
      have hE := hel j hj
      have hg : elems[j]? = some (elems[j]'(by omega)) := List.getElem?_eq_getElem (by omega)
      rw [hg, hC, Option.bind_eq_some_iff] at hE
      obtain ⟨cs', hcs', hy⟩ := hE
      obtain ⟨y0, y1, k, hxx, hcl, t0, t1⟩ := trod_struct2 hs hy
      rw [o0, c0] at t0
      rw [o1, c1] at t1
      obtain ⟨a, e0, ex0, _⟩ := DataW.trod_int h0 t0
      obtain ⟨b, e1, ex1, _⟩ := DataW.trod_int h1 t1
      rw [hC] at hcl
      match cs', hcl with
      | [u0, u1], _ =>
        simp at e0 e1
        subst e0 e1
        have hc := World.cells?_some hcs'
        exact ⟨a, b, by rw [hg, hxx, ex0, ex1]; rfl, hc.2.2 0 (by omega), hc.2.2 1 (by omega)⟩
    have hpn : 0 < n := by simpa [hlen] using hpos
    obtain ⟨a0, b0, _, hz0, _⟩ := each 0 hpn
    obtain ⟨bk, off, spot⟩ := x
    have hspot : spot = none := by simpa [Addr.add] using World.cell?_spot hz0
    subst hspot
    refine ⟨bk, off, rfl, ?_, fun j hj => ?_⟩
    · simp only [Prod.mk.injEq] at hx
      obtain ⟨_, rfl⟩ := hx
      have := hlt (.cell bk off) (by simp [MemPlace.row, hC]; omega)
      simpa [MemPlace.block] using this
    · simp [hlen] at hj
      obtain ⟨a, b, he, ha, hb'⟩ := each j hj
      rw [add_at, add_at, Nat.add_zero] at ha
      rw [add_at, add_at] at hb'
      have hg : elems[j]? = some (elems[j]'(by omega)) := List.getElem?_eq_getElem (by omega)
      rw [hg, Option.some.injEq] at he
      rw [ha, hb']
      simp [he, pairOf]
end Go.Proofs.Ytncbhpopobjaiaa
