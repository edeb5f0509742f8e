/- Pieces: the program's and the document's low and number: what each returns. -/
import Derived.Test.YtgoebblcggdlgaaPieM
import Derived.Test.YtgoebblcggdlgaaOctA
import Derived.Test.YtgoebblcggdlgaaSumE
namespace Go.Proofs.Ytgoebblcggdlgaa
set_option linter.unusedVariables false
set_option linter.unusedSimpArgs false
open Go.RowKit OctM SumM

/-- string([]byte{..}) of a byte laid anew. -/
theorem str_one' (w : World) (x : Int) (m : Nat) (hm : m < 256) (hx : x = (m : Int)) :
    (convert 58 9 (.slice (some ⟨w.heap.size, 0, none⟩) 1 1)).run Try.prog (w.alloc (.cells #[.int .u8 x] 5)) = .ok (.string (str [UInt8.ofNat m])) (w.alloc (.cells #[.int .u8 x] 5)) :=
  run_str (P := Try.prog) _ (w.heap.size + 1) 58 5 9 Try.underlying58 Try.underlying5 Try.underlying9 _ 1 1 [UInt8.ofNat m] rfl
    (by subst hx; exact sees_lit w #[.int .u8 (m : Int)] 5 (0, 0) (bvs [UInt8.ofNat m]) (oct_one m hm).symm)
theorem pow_div (z j : Nat) : z / 256 ^ j / 256 = z / 256 ^ (j + 1) := by rw [Nat.div_div_eq_div_mul, Nat.pow_succ]

set_option maxHeartbeats 1600000 in
theorem low_any (z k : Nat) (hk : k ≤ 8) (hz : z < 9223372036854775808) (w : World) :
    Calls Try.prog 28 #[.int .i64 (z : Int), .int .i64 (k : Int)] w fun e w' => e = .returned (.string (str (lo k z))) ∧ Below w.heap.size w w' := by
  obtain ⟨i0, hi, hz0, hz1, hz2⟩ := oct_parts
  go_enter Try.func28, Try.ntmps28
  go_wp2_with fail
  go_loopw [0, 5, 7] (fun n v i wr => ∃ j m : Nat, j ≤ k ∧ i = .int .i64 j ∧ n = .int .i64 (m : Int) ∧ Hid (m = z / 256 ^ j) ∧ (∃ A1 c1, v = .slice A1 j c1 ∧ Own wr w.heap.size 5 v (bvs (lo j z))) ∧ Below w.heap.size w wr) (fun _ _ i _ => k - (intOf i).toNat)
  case atStart => exact ⟨0, z, by omega, rfl, rfl, Lib.hid (by simp), ⟨none, 0, rfl, Own.nil_ _ _ _⟩, Below.refl _ _⟩
  case round =>
    obtain ⟨j, m, hj, rfl, rfl, HM, ⟨A1, c1, rfl, hown⟩, hbr⟩ := hrel
    have hm63 : m < 9223372036854775808 := by rw [HM.out]; exact Nat.lt_of_le_of_lt (Nat.div_le_self _ _) hz
    have HL := Lib.hid (lo_len j z)
    by_cases hlt : j < k
    · have hlt2 : (j : Int) < (k : Int) := by omega
      have HS := Lib.hid (lo_snoc j z)
      obtain ⟨q, hq⟩ : ∃ q, q = lo j z := ⟨_, rfl⟩
      rw [← hq] at hown HL HS
      clear hq
      have hbs := hbr.size
      go_wp2_with (first
        | (at_builtin
           refine wpList_app _ rfl (.tmp 9) (.tmp 12) _ rfl w.heap.size 5 i0 _ 1 Try.underlying58 hi hz0 hz1 hz2 rfl (.slice A1 j c1) (bvs q) j rfl (by rw [bvs_length, HL.out]) (hown.alloc _) (wr.heap.size + 1) (some ⟨wr.heap.size, 0, none⟩) 1 (bvs [UInt8.ofNat (m % 256)]) 1 rfl rfl (sees_lit wr _ 5 (0, 0) _ (by rw [oct_one (m % 256) (by omega)]; simp; try omega)) (bvs_one _) (by simp [maxLen]; omega) (by omega) (by simp; omega) ?_
           intro A3 c3 w3 hown3 hb3 hg3 hat3)
        | fail)
      rw [← bvs_append] at hown3
      go_roundw
      case rel =>
        refine ⟨j + 1, m / 256, by omega, by go_num, by go_num, Lib.hid (by rw [HM.out, pow_div]), ⟨A3, c3, rfl, ?_⟩, (hbr.alloc (by omega) _).trans hb3⟩
        rw [HS.out, ← HM.out]
        exact hown3
      case measure => simp [intOf]; omega
    · obtain rfl : j = k := by omega
      have hlt2 : decide ((j : Int) < (j : Int)) = false := by simp
      have hstr := run_str (P := Try.prog) wr wr.heap.size 58 5 9 Try.underlying58 Try.underlying5 Try.underlying9 A1 j c1 (lo j z) HL.out hown.sees
      go_wp2_with fail
      go_ret
      exact ⟨rfl, hbr⟩

set_option maxRecDepth 4000 in
set_option maxHeartbeats 1600000 in
theorem rlow_any (z k : Nat) (hk : k ≤ 8) (hz : z < 9223372036854775808) (w : World) :
    Calls Try.prog 29 #[.int .i64 (z : Int), .int .i64 (k : Int)] w fun e w' => e = .returned (.string (str (lo k z))) ∧ Below w.heap.size w w' := by
  go_enter Try.func29, Try.ntmps29
  go_wp2_with fail
  go_loopw [0, 5, 6] (fun n v i wr => ∃ j m : Nat, j ≤ k ∧ i = .int .i64 j ∧ n = .int .i64 (m : Int) ∧ Hid (m = z / 256 ^ j) ∧ v = .string (str (lo j z)) ∧ Below w.heap.size w wr) (fun _ _ i _ => k - (intOf i).toNat)
  case atStart => exact ⟨0, z, by omega, rfl, rfl, Lib.hid (by simp), rfl, Below.refl _ _⟩
  case round =>
    obtain ⟨j, m, hj, rfl, rfl, HM, rfl, hbr⟩ := hrel
    have hm63 : m < 9223372036854775808 := by rw [HM.out]; exact Nat.lt_of_le_of_lt (Nat.div_le_self _ _) hz
    have hsp := str_size (lo j z)
    rw [lo_len] at hsp
    obtain ⟨sp, hsp2⟩ : ∃ sp, sp = str (lo j z) := ⟨_, rfl⟩
    rw [← hsp2] at hsp ⊢
    have hspb : sp.size ≤ 8 := by omega
    have HSP := Lib.hid hsp2
    clear hsp2 hsp
    by_cases hlt : j < k
    · have hlt2 : (j : Int) < (k : Int) := by omega
      have hstr := str_one' wr ((m : Int) % 256) (m % 256) (by omega) (by omega)
      have hs1 : (str [UInt8.ofNat (m % 256)]).size = 1 := str_size _
      obtain ⟨t, ht⟩ : ∃ t, t = str [UInt8.ofNat (m % 256)] := ⟨_, rfl⟩
      rw [← ht] at hstr hs1
      have HT := Lib.hid ht
      clear ht
      go_wp2_with fail
      go_roundw
      case rel =>
        refine ⟨j + 1, m / 256, by omega, by go_num, by go_num, Lib.hid (by rw [HM.out, pow_div]), ?_, hbr.alloc hbr.size _⟩
        rw [HSP.out, HT.out, str_append, lo_snoc, ← HM.out]
      case measure => simp [intOf]; omega
    · obtain rfl : j = k := by omega
      have hlt2 : decide ((j : Int) < (j : Int)) = false := by simp
      go_wp2_with fail
      go_ret
      exact ⟨by rw [HSP.out]; rfl, hbr⟩

theorem or_step8 (m k : Nat) (x : UInt8) (hk : k < 7) (hm : m < 256 ^ k) : bits .or .i64 (m : Int) (wrap64 ((x.toNat : Int) * 2 ^ (8 * k))) = ((m + 256 ^ k * x.toNat : Nat) : Int) := by
  have e1 : (2 : Nat) ^ (8 * k) = 256 ^ k := by rw [Nat.pow_mul]
  have e2 : ((x.toNat : Int) * 2 ^ (8 * k)) = ((2 ^ (8 * k) * x.toNat : Nat) : Int) := by
    push_cast; rw [Int.mul_comm]
  have hx := x.toNat_lt
  have b1 : (2 : Nat) ^ (8 * k) ≤ 2 ^ 48 := Nat.pow_le_pow_right (by omega) (by omega)
  have b2 : 2 ^ (8 * k) * x.toNat ≤ 2 ^ 48 * 255 := Nat.mul_le_mul b1 (by omega)
  have b3 : m < 2 ^ (8 * k) := by rw [e1]; exact hm
  rw [e2]
  have e3 : wrap64 ((2 ^ (8 * k) * x.toNat : Nat) : Int) = ((2 ^ (8 * k) * x.toNat : Nat) : Int) := by
    simp only [wrap64]; omega
  rw [e3, i64_or_low x.toNat m (8 * k) b3 (by omega), e1]
theorem nu_take (l : List UInt8) (k : Nat) (h : k < l.length) : nu (l.take (k + 1)) = nu (l.take k) + 256 ^ k * l[k].toNat := by
  rw [List.take_succ_eq_append_getElem h, nu_snoc, List.length_take, Nat.min_eq_left (Nat.le_of_lt h)]
theorem nu_drop (l : List UInt8) (k : Nat) (h : k < l.length) : nu (l.drop k) = nu (l.drop (k + 1)) * 256 + l[k].toNat := by
  rw [List.drop_eq_getElem_cons h, nu]; omega

set_option maxHeartbeats 1600000 in
theorem number_any (l : List UInt8) (hl : l.length ≤ 7) (w : World) :
    Calls Try.prog 24 #[.string (str l)] w fun e w' => e = .returned (.int .i64 (nu l : Int)) ∧ w = w' := by
  go_enter Try.func24, Try.ntmps24
  have hsz := str_size l
  go_wp2_with fail
  go_loop [3, 7] (fun v i => ∃ k m : Nat, k ≤ l.length ∧ i = .int .i64 k ∧ v = .int .i64 (m : Int) ∧ Hid (m = nu (l.take k))) (fun _ i => l.length - (intOf i).toNat)
  case atStart => exact ⟨0, 0, Nat.zero_le _, rfl, rfl, Lib.hid rfl⟩
  case round =>
    obtain ⟨k, m, hk, rfl, rfl, HM⟩ := hrel
    by_cases hlt : k < l.length
    · have hkl : k < (str l).size := by rw [str_size]; exact hlt
      have hmk : m < 256 ^ k := by
        have := nu_lt (l.take k)
        rw [List.length_take, Nat.min_eq_left hk, ← HM.out] at this
        exact this
      obtain ⟨x, hx⟩ : ∃ x, x = l[k] := ⟨_, rfl⟩
      have hor := or_step8 m k x (by omega) hmk
      have hget : (str l)[k] = x := (str_get l k hkl).trans hx.symm
      have hxl := x.toNat_lt
      have HN : Hid (nu (l.take (k + 1)) = nu (l.take k) + 256 ^ k * x.toNat) := Lib.hid (by rw [hx]; exact nu_take l k hlt)
      clear hx hmk
      go_wp2_with fail
      go_round
      case rel => exact ⟨k + 1, m + 256 ^ k * x.toNat, by omega, by go_num, rfl, Lib.hid (by rw [HN.out, HM.out])⟩
      case measure => simp [intOf]; omega
    · obtain rfl : k = l.length := by omega
      have hm : m = nu l := by rw [HM.out, List.take_length]
      go_wp2_with fail
      go_ret
      exact ⟨rfl, rfl⟩

set_option maxHeartbeats 1600000 in
theorem rnumber_any (l : List UInt8) (hl : l.length ≤ 7) (w : World) :
    Calls Try.prog 25 #[.string (str l)] w fun e w' => e = .returned (.int .i64 (nu l : Int)) ∧ w = w' := by
  go_enter Try.func25, Try.ntmps25
  have hsz := str_size l
  go_wp2_with fail
  go_loop [3, 4] (fun v i => ∃ k m : Nat, k ≤ l.length ∧ i = .int .i64 ((k : Int) - 1) ∧ v = .int .i64 (m : Int) ∧ Hid (m = nu (l.drop k))) (fun _ i => (intOf i + 1).toNat)
  case atStart => exact ⟨l.length, 0, Nat.le_refl _, by go_num, rfl, Lib.hid (by rw [List.drop_length]; rfl)⟩
  case round =>
    obtain ⟨k, m, hk, rfl, rfl, HM⟩ := hrel
    rcases k with _ | k
    · have hm : m = nu l := by rw [HM.out, List.drop_zero]
      go_wp2_with fail
      go_ret
      exact ⟨rfl, rfl⟩
    · have hlt : k < l.length := by omega
      have hkl : k < (str l).size := by rw [str_size]; exact hlt
      have hmk : m ≤ 281474976710656 := by
        have h1 := nu_lt (l.drop (k + 1))
        have h2 : (256 : Nat) ^ (l.drop (k + 1)).length ≤ 256 ^ 6 := Nat.pow_le_pow_right (by omega) (by rw [List.length_drop]; omega)
        rw [← HM.out] at h1
        omega
      have e1 : ((k + 1 : Nat) : Int) - 1 = (k : Int) := by omega
      obtain ⟨x, hx⟩ : ∃ x, x = l[k] := ⟨_, rfl⟩
      have hget : (str l)[k] = x := (str_get l k hkl).trans hx.symm
      have hxl := x.toNat_lt
      have HN : Hid (nu (l.drop k) = nu (l.drop (k + 1)) * 256 + x.toNat) := Lib.hid (by rw [hx]; exact nu_drop l k hlt)
      clear hx
      rw [e1]
      go_wp2_with fail
      go_round
      case rel => exact ⟨k, m * 256 + x.toNat, by omega, by go_num, by go_num, Lib.hid (by rw [HN.out, HM.out])⟩
      case measure => simp [intOf] <;> omega
end Go.Proofs.Ytgoebblcggdlgaa
