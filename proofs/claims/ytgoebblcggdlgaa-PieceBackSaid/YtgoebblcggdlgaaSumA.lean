/- sum.step, sum.Of, sum.times, sum.moved, sum.Join: what each returns. -/
import Derived.Test.YtgoebblcggdlgaaWords
import Derived.Test.YtgoebblcggdlgaaSumMath
import Derived.Laws.BitsAllLaws
namespace Go.Proofs.Ytgoebblcggdlgaa
set_option linter.unusedVariables false
open Go.RowKit SumM

theorem ret_int {k : IntKind} {a b : Int} (h : a = b) : Ending.returned (.int k a) = .returned (.int k b) := by rw [h]
theorem u32_and_one (x : W) : bits .and .u32 (x.toNat : Int) 1 = ((x.toNat % 2 : Nat) : Int) := by
  have h := u32_and_nat x.toNat 1 x.isLt (by decide)
  rw [nat_mask1] at h
  exact h
theorem st_odd {x : W} (h : x.toNat % 2 = 1) : (st x).toNat = (x.toNat / 2) ^^^ 2197175160 := by
  have h0 : x.getLsbD 0 = true := by simp [BitVec.getLsbD, Nat.testBit_zero, h]
  unfold st
  rw [if_pos h0, BitVec.toNat_xor, BitVec.toNat_ushiftRight, Nat.shiftRight_eq_div_pow]
  rfl
theorem st_even {x : W} (h : x.toNat % 2 = 0) : (st x).toNat = x.toNat / 2 := by
  have h0 : ¬ (x.getLsbD 0 = true) := by simp [BitVec.getLsbD, Nat.testBit_zero, h]
  unfold st
  rw [if_neg h0, BitVec.toNat_ushiftRight, Nat.shiftRight_eq_div_pow]

theorem u32_xor_bv (a b : W) : bits .xor .u32 (a.toNat : Int) (b.toNat : Int) = ((a ^^^ b).toNat : Int) := by
  rw [u32_xor_nat a.toNat b.toNat a.isLt b.isLt, BitVec.toNat_xor]
theorem half_cast (x : W) : ((x.toNat : Int) / 2) = ((x.toNat / 2 : Nat) : Int) := by omega

theorem step_any (x : W) (w : World) : Calls Try.prog 43 #[.int .u32 (x.toNat : Int)] w fun e w' => e = .returned (.int .u32 ((st x).toNat : Int)) ∧ w = w' := by
  have hx := x.isLt
  rcases Nat.mod_two_eq_zero_or_one x.toNat with h | h
  · have h1 : (bits .and .u32 (x.toNat : Int) 1 == 1) = false := by rw [u32_and_one, h]; rfl
    have hr := Lib.hid (st_even h)
    clear h
    go_enter Try.func43, Try.ntmps43
    go_wp2
    go_ret
    exact ⟨ret_int (by rw [hr.out, ← half_cast]), rfl⟩
  · have h1 : (bits .and .u32 (x.toNat : Int) 1 == 1) = true := by rw [u32_and_one, h]; rfl
    have hr := Lib.hid (st_odd h)
    clear h
    have hb : bits .xor .u32 ((x.toNat : Int) / 2) 2197175160 = ((x.toNat / 2 ^^^ 2197175160 : Nat) : Int) := by
      rw [half_cast]; exact u32_xor_nat _ _ (by omega) (by decide)
    have HB := Lib.hid hb
    clear hb
    go_enter Try.func43, Try.ntmps43
    go_wp2
    go_ret
    exact ⟨ret_int (by rw [hr.out, ← HB.out]), rfl⟩

/-- The sum's state over the first k bytes. -/
theorem run_take (l : List UInt8) (s : W) (k : Nat) (h : k < l.length) : run s (l.take (k + 1)) = stn 8 (run s (l.take k) ^^^ b32 l[k]) := by
  rw [List.take_succ_eq_append_getElem h, run_append]; rfl
theorem b32_toNat (c : UInt8) : (b32 c).toNat = c.toNat := by
  have := c.toNat_lt
  simp [b32]
theorem xor_byte (a : W) (c : UInt8) : bits .xor .u32 (a.toNat : Int) (c.toNat : Int) = ((a ^^^ b32 c).toNat : Int) := by
  rw [← u32_xor_bv, b32_toNat]
theorem not_bv (a : W) : bits .xor .u32 IntKind.u32.max (a.toNat : Int) = ((ones ^^^ a).toNat : Int) := by
  rw [← u32_xor_bv]; rfl

set_option maxHeartbeats 400000 in
theorem of_any (A : Option Addr) (n c : Nat) (l : List UInt8) (w : World) (B : Nat) (hn : l.length = n) (hs : Sees w B A (bvs l)) (hm : n ≤ maxLen) :
    Calls Try.prog 36 #[.slice A n c] w fun e w' => e = .returned (.int .u32 ((sumOf l).toNat : Int)) ∧ w = w' := by
  unfold maxLen at hm
  subst hn
  go_enter Try.func36, Try.ntmps36
  go_wp2
  go_loop [3, 8] (fun s i => ∃ k : Nat, k ≤ l.length ∧ i = .int .i64 k ∧ s = .int .u32 ((run ones (l.take k)).toNat : Int)) (fun _ i => l.length - (intOf i).toNat)
  case atStart => exact ⟨0, Nat.zero_le _, rfl, rfl⟩
  case round =>
    obtain ⟨k, hk, rfl, rfl⟩ := hrel
    by_cases hlt : k < l.length
    · have hN := Lib.hid (run_take l ones k hlt)
      obtain ⟨b, o, rfl, hb, hcell⟩ := hs (by simp [bvs]; omega)
      have hc : w.cell? ⟨b, o + k, none⟩ = some (.int .u8 (l[k].toNat : Int)) := by
        have := hcell k (by simpa [bvs] using hlt)
        simpa [bvs, bv] using this
      clear hcell
      have hcl := l[k].toNat_lt
      obtain ⟨ch, hch⟩ : ∃ ch, ch = l[k] := ⟨_, rfl⟩
      rw [← hch] at hc hcl
      have HCH := Lib.hid hch
      clear hch
      go_wp2
      go_loop [3, 16] (fun s j => ∃ m : Nat, m ≤ 8 ∧ j = .int .i64 m ∧ s = .int .u32 ((stn m (run ones (l.take k) ^^^ b32 ch)).toNat : Int)) (fun _ j => 8 - (intOf j).toNat)
      case atStart => exact ⟨0, Nat.zero_le _, rfl, by rw [xor_byte]; rfl⟩
      case round =>
        obtain ⟨m, hm8, rfl, rfl⟩ := hrel
        by_cases hlt8 : m < 8
        · have hS := Lib.hid (stn_succ m (run ones (l.take k) ^^^ b32 ch))
          go_wp2_with (go_at_call 43; refine (step_any _ _).mono ?_; rintro e w' ⟨rfl, rfl⟩)
          go_round
          case rel => exact ⟨m + 1, by omega, by go_num, by rw [hS.out]⟩
          case measure => simp [intOf]; omega
        · go_wp2
          go_round
          case rel => exact ⟨k + 1, by omega, by go_num, by rw [hN.out, ← HCH.out, show m = 8 from by omega]⟩
          case measure => simp [intOf]; omega
    · go_wp2
      go_ret
      have : k = l.length := by omega
      subst this
      exact ⟨ret_int (by rw [List.take_length, sumOf, ← not_bv]), rfl⟩

/-- The bit that stands for the i-th power. -/
def bt (i : Nat) : Nat := 4294967296 / 2 ^ (i + 1)
theorem bt_half (i : Nat) : bt i / 2 = bt (i + 1) := by
  unfold bt; rw [Nat.div_div_eq_div_mul, ← Nat.pow_succ]
theorem bt_pow {i : Nat} (h : i < 32) : bt i = 2 ^ (31 - i) := by
  unfold bt
  rw [show (4294967296 : Nat) = 2 ^ (31 - i) * 2 ^ (i + 1) from by rw [← Nat.pow_add, show 31 - i + (i + 1) = 32 from by omega]]
  exact Nat.mul_div_cancel _ (Nat.two_pow_pos _)
theorem bt_pos {i : Nat} (h : i < 32) : 0 < bt i := by rw [bt_pow h]; exact Nat.two_pow_pos _
theorem bt_lt (i : Nat) : bt i < 4294967296 := by
  unfold bt
  exact Nat.div_lt_self (by decide) (Nat.one_lt_two_pow (by omega))
theorem bt_end : bt 32 = 0 := by decide
theorem bit_test (a : W) {i : Nat} (h : i < 32) : (bits .and .u32 (a.toNat : Int) (bt i : Int) != 0) = a.getLsbD (31 - i) := by
  rw [u32_and_nat _ _ a.isLt (bt_lt i), bt_pow h, nat_bit]
  show _ = Nat.testBit a.toNat (31 - i)
  rw [Nat.testBit_eq_decide_div_mod_eq]
  rcases Nat.mod_two_eq_zero_or_one (a.toNat / 2 ^ (31 - i)) with e | e
  · rw [e]; simp
  · rw [e]
    have := Nat.two_pow_pos (31 - i)
    simp
    exact_mod_cast Nat.ne_of_gt this

end Go.Proofs.Ytgoebblcggdlgaa
