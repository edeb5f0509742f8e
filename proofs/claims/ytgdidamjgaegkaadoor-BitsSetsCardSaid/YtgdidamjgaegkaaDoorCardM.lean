/- What is in both of two masks, by the document: what it returns. -/
import Derived.Test.YtgdidamjgaegkaaDoorBitN
namespace Go.Proofs.YtgdidamjgaegkaaDoor
set_option linter.unusedVariables false
open Go Go.RowKit BitM

/-- What is in both of two masks, by the document. -/
def both (x y : BitVec 32) (k : Nat) : BitVec 32 := ofl (((List.range k).filter fun i : Nat => has x (i : Int) && has y (i : Int)).map fun i : Nat => (i : Int))
theorem both_succ (x y : BitVec 32) (k : Nat) : both x y (k + 1) = if has x (k : Int) && has y (k : Int) then put (both x y k) (k : Int) else both x y k := by
  unfold both
  rw [List.range_succ, List.filter_append, List.map_append]
  have hf : List.filter (fun i : Nat => has x (i : Int) && has y (i : Int)) [k] = if has x (k : Int) && has y (k : Int) then [k] else [] := by rw [List.filter_cons, List.filter_nil]
  rw [hf]
  cases h : has x (k : Int) && has y (k : Int)
  · simp
  · simp only [if_true, List.map_cons, List.map_nil]
    exact ofl_snoc _ _
theorem has_both (x y : BitVec 32) (k : Nat) (n : Nat) (hn : n < 32) : has (both x y k) (n : Int) = (decide (n < k) && (has x (n : Int) && has y (n : Int))) := by
  unfold both
  rw [has_ofl, decide_eq_true (show (0 : Int) ≤ n ∧ (n : Int) < 32 by omega), Bool.true_and, Bool.eq_iff_iff]
  simp only [decide_eq_true_eq, List.mem_map, List.mem_filter, List.mem_range, Bool.and_eq_true]
  constructor
  · rintro ⟨i, ⟨h1, h2⟩, h3⟩
    obtain rfl : i = n := by omega
    exact ⟨h1, h2⟩
  · rintro ⟨h1, h2⟩
    exact ⟨n, ⟨h1, h2⟩, rfl⟩

set_option maxRecDepth 100000 in
set_option maxHeartbeats 1600000 in
theorem rboth_any (x y : BitVec 32) (w : World) : Calls Tryd.prog 64 #[.int .u32 (x.toNat : Int), .int .u32 (y.toNat : Int)] w fun e w' =>
    e = .returned (.int .u32 ((both x y 9).toNat : Int)) ∧ w = w' := by
  obtain ⟨R, hR⟩ : ∃ R, R = both x y 9 := ⟨_, rfl⟩
  rw [← hR]
  have HR := Lib.hid hR
  clear hR
  have HX := Lib.hid (fun (k : Int) (wx : World) => rhas_any x k wx)
  have HY := Lib.hid (fun (k : Int) (wx : World) => rhas_any y k wx)
  go_enter Tryd.func64, Tryd.ntmps64
  go_wp2_with fail
  go_loopw [6, 5] (fun i m wr => ∃ k : Nat, k ≤ 9 ∧ i = .int .i64 k ∧ (∃ z : BitVec 32, m = .int .u32 (z.toNat : Int) ∧ Hid (z = both x y k)) ∧ wr = w) (fun i _ _ => 9 - (intOf i).toNat)
  case atStart => exact ⟨0, by omega, rfl, ⟨0#32, rfl, Lib.hid rfl⟩, rfl⟩
  case round =>
    obtain ⟨k, hk, rfl, ⟨z, rfl, HZ⟩, rfl⟩ := hrel
    by_cases hlt : k < 9
    · have d8 : (k : Int) ≤ 8 := by omega
      have HS := Lib.hid (both_succ x y k)
      have HW := Lib.hid (fun wx : World => rwith_any z k (by omega) wx)
      cases hx : has x (k : Int) with
      | false =>
        have H1 := Lib.hid (HX.out (k : Int) wr)
        rw [hx] at H1 HS
        clear hx
        go_wp2_with fail
        refine H1.out.mono ?_
        rintro e w' ⟨rfl, rfl⟩
        go_wp2_with fail
        go_roundw
        case rel => exact ⟨k + 1, by omega, by go_num, ⟨z, rfl, Lib.hid (by rw [HS.out, HZ.out]; rfl)⟩, trivial⟩
        case measure => simp [intOf]; omega
      | true =>
        cases hy : has y (k : Int) with
        | true =>
          have H1 := Lib.hid (HX.out (k : Int) wr)
          have H2 := Lib.hid (HY.out (k : Int) wr)
          rw [hx] at H1 HS
          rw [hy] at H2 HS
          clear hx hy
          go_wp2_with fail
          refine H1.out.mono ?_
          rintro e w' ⟨rfl, rfl⟩
          go_wp2_with fail
          refine H2.out.mono ?_
          rintro e w' ⟨rfl, rfl⟩
          go_wp2_with fail
          refine (HW.out _).mono ?_
          rintro e w' ⟨rfl, rfl⟩
          go_wp2_with fail
          go_roundw
          case rel => exact ⟨k + 1, by omega, by go_num, ⟨put z k, rfl, Lib.hid (by rw [HS.out, ← HZ.out]; rfl)⟩, trivial⟩
          case measure => simp [intOf]; omega
        | false =>
          have H1 := Lib.hid (HX.out (k : Int) wr)
          have H2 := Lib.hid (HY.out (k : Int) wr)
          rw [hx] at H1 HS
          rw [hy] at H2 HS
          clear hx hy
          go_wp2_with fail
          refine H1.out.mono ?_
          rintro e w' ⟨rfl, rfl⟩
          go_wp2_with fail
          refine H2.out.mono ?_
          rintro e w' ⟨rfl, rfl⟩
          go_wp2_with fail
          go_roundw
          case rel => exact ⟨k + 1, by omega, by go_num, ⟨z, rfl, Lib.hid (by rw [HS.out, HZ.out]; rfl)⟩, trivial⟩
          case measure => simp [intOf]; omega
    · obtain rfl : k = 9 := by omega
      have HRR : Hid (R = z) := Lib.hid (by rw [HR.out, HZ.out])
      go_wp2_with fail
      go_ret
      exact ⟨by rw [HRR.out]; rfl, rfl⟩
end Go.Proofs.YtgdidamjgaegkaaDoor
