/- Lists of numbers: the document's Check; what goes along two lists: what each returns. -/
import Derived.Test.YtglhgdkghddcaaaIdsA
namespace Go.Proofs.Ytglhgdkghddcaaa
set_option linter.unusedVariables false
open Go.RowKit IdsM

set_option maxHeartbeats 800000 in
theorem ref_check (A : Option Addr) (n c : Nat) (l : List Int) (w : World) (hn : l.length = n) (hs : Sees w w.heap.size A (ivs l)) (hm : n ≤ 65536) :
    Calls Try.prog 32 #[.slice A n c] w fun e w' => e = .returned (.bool (decide (Rise l))) ∧ Below w.heap.size w w' := by
  subst hn
  go_enter Try.func32, Try.ntmps32
  go_wp2
  go_loopw [3] (fun i wr => ∃ k : Nat, k ≤ l.length ∧ i = .int .i64 k ∧ Rise (l.take k) ∧ Below w.heap.size w wr) (fun i _ => l.length - (intOf i).toNat)
  case atStart => exact ⟨0, Nat.zero_le _, rfl, Rise.nil_, Below.refl _ _⟩
  case round =>
    obtain ⟨k, hk, rfl, hr, hbr⟩ := hrel
    have HR := Lib.hid hr
    clear hr
    by_cases hlt : k < l.length
    · obtain ⟨b, o, rfl, hb, hc⟩ := (hs.below hbr).int k hlt
      obtain ⟨x, hx⟩ : ∃ x, x = l[k] := ⟨_, rfl⟩
      rw [← hx] at hc
      have HX := Lib.hid hx
      clear hx
      by_cases h1 : x < 1
      · have d1 : decide (x < 1) = true := by simpa using h1
        go_wp2
        go_quiet (fail)
        go_wp2
        go_ret
        exact ⟨by simp [rise_no_range k hlt (by rw [← HX.out]; omega)], below_drewN hbr _⟩
      · have d1 : decide (x < 1) = false := by simp; omega
        by_cases h2 : 1073741824 ≤ x
        · have d2 : decide (1073741824 ≤ x) = true := by simpa using h2
          go_wp2
          go_quiet (fail)
          go_wp2
          go_ret
          exact ⟨by simp [rise_no_range k hlt (by rw [← HX.out]; omega)], below_drewN hbr _⟩
        · have d2 : decide (1073741824 ≤ x) = false := by simp; omega
          by_cases h3 : k = 0
          · have d3 : decide ((0 : Int) < (k : Int)) = false := by simp; omega
            have d3' : decide (0 < k) = false := by simp; omega
            have HK := Lib.hid h3
            clear h3
            go_wp2
            go_quiet (fail)
            go_wp2
            go_roundw
            case rel =>
              refine ⟨k + 1, by omega, by go_num, ?_, below_drewN hbr _⟩
              have h3 := HK.out
              subst h3
              exact rise_next0 hlt (by rw [← HX.out]; omega)
            case measure => simp [intOf]; omega
          · obtain ⟨m, rfl⟩ : ∃ m, k = m + 1 := ⟨k - 1, by omega⟩
            obtain ⟨b', o', e', hb', hc'⟩ := (hs.below hbr).int m (by omega)
            injection e' with e'
            injection e' with e1 e2
            subst e1 e2
            obtain ⟨y, hy⟩ : ∃ y, y = l[m] := ⟨_, rfl⟩
            rw [← hy] at hc'
            have HY := Lib.hid hy
            clear hy
            by_cases h4 : x ≤ y
            · have d4 : decide (x ≤ y) = true := by simpa using h4
              go_wp2
              go_quiet (fail)
              go_wp2
              go_ret
              exact ⟨by simp [rise_no_order m hlt (by rw [← HX.out, ← HY.out]; omega)], below_drewN hbr _⟩
            · have d4 : decide (x ≤ y) = false := by simp; omega
              go_wp2
              go_quiet (fail)
              go_wp2
              go_roundw
              case rel => exact ⟨m + 2, by omega, by go_num, rise_next m hlt HR.out (by rw [← HX.out]; omega) (by rw [← HX.out, ← HY.out]; omega), below_drewN hbr _⟩
              case measure => simp [intOf]; omega
    · obtain rfl : k = l.length := by omega
      have hr := HR.out
      rw [List.take_length] at hr
      have HR2 := Lib.hid hr
      clear hr
      go_wp2
      go_ret
      exact ⟨by simp [HR2.out], hbr⟩
end Go.Proofs.Ytglhgdkghddcaaa
