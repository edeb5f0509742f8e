/- IdsOne: places, what is there, what is above, and lists with a number and without: for every input. No condition. -/
import Derived.Test.YtgnkkbgphghioaaIdsG
import Derived.Test.YtgnkkbgphghioaaBase
namespace Go.Proofs.Ytgnkkbgphghioaa
set_option linter.unusedVariables false
open Go.ChangeShapes Go.WideShapes Go.ChangeAt Go.RowKit IdsM

set_option maxHeartbeats 1600000 in
theorem walk_one_main (A : Option Addr) (c : Nat) (a : List Int) (id : Int) (w : World) (hnc : a.length ≤ c) (hcm : c ≤ maxLen) (hs : Sees w w.heap.size A (ivs a)) (h1 : a.length ≤ 300) (ra : Rise a) :
    Calls Try.prog 10 #[.slice A a.length c, .int .i64 id] w fun e w' => e = .returned (.bool true) ∧ Below w.heap.size w w' := by
  have HA := Lib.hid (show decide (Rise a) = true from decide_eq_true ra)
  have HU := Lib.hid ra.1
  have HPut := Lib.hid (put_ref ra id)
  have HDrop := Lib.hid (drop_ref ra id)
  have hl1 := above_len a id
  have hl2 := len_refPut a id
  have hl3 : (without a id).length ≤ a.length := List.length_filter_le _ _
  obtain ⟨p, hp⟩ : ∃ p, p = a.countP (· < id) := ⟨_, rfl⟩
  have HP := Lib.hid hp
  have hpa : p ≤ a.length := by rw [hp]; exact List.countP_le_length
  obtain ⟨hh, hhh⟩ : ∃ hh, hh = decide (id ∈ a) := ⟨_, rfl⟩
  have HH := Lib.hid hhh
  clear hhh hp ra
  go_enter Try.func10, Try.ntmps10
  go_wp2_with fail
  refine (check_any _ _ _ a _ rfl hs (by omega)).mono ?_
  rintro e w0 ⟨rfl, rfl⟩
  rw [HA.out]
  go_wp2_with fail
  refine (ref_check _ _ _ a _ rfl hs (by omega)).mono ?_
  rintro e w1 ⟨rfl, b1⟩
  rw [HA.out]
  go_wp2_with fail
  refine (ref_check _ _ _ a _ rfl (hs.on b1) (by omega)).mono ?_
  rintro e w2 ⟨rfl, b2'⟩
  rw [HA.out]
  have b2 := below_on b1 b2'
  go_wp2_with fail
  refine (place_any _ _ _ a id _ rfl (hs.on b2) (by omega) HU.out).mono ?_
  rintro e wx ⟨rfl, rfl⟩
  rw [← HP.out]
  go_wp2_with fail
  refine (ref_place _ _ _ a id _ _ rfl (hs.on b2) (by omega)).mono ?_
  rintro e wx ⟨rfl, rfl⟩
  rw [← HP.out]
  go_wp2_with fail
  refine (has_any _ _ _ a id _ rfl (hs.on b2) (by omega) HU.out).mono ?_
  rintro e wx ⟨rfl, rfl⟩
  rw [← HH.out]
  go_wp2_with fail
  refine (ref_has _ _ _ a id _ _ rfl (hs.on b2) (by omega)).mono ?_
  rintro e wx ⟨rfl, rfl⟩
  rw [← HH.out]
  go_wp2_with fail
  refine (after_any _ _ _ a id _ rfl hnc hcm (hs.on b2) (by omega) HU.out).mono ?_
  rintro e w3 ⟨A3, c3, rfl, o3, b3'⟩
  have b3 := below_on b2 b3'
  have s3 := o3.sees
  go_wp2_with fail
  refine (ref_after _ _ _ a id _ rfl (hs.on b3) (by omega)).mono ?_
  rintro e w4 ⟨A4, c4, rfl, o4, b4'⟩
  have b4 := below_on b3 b4'
  have s4 := o4.sees
  replace s3 := s3.on b4'
  go_wp2_with fail
  refine (ref_ints _ _ _ _ _ _ _ _ _ rfl s3 rfl s4 (by omega) (by omega)).mono ?_
  rintro e w5 ⟨rfl, b5'⟩
  have b5 := below_on b4 b5'
  rw [decide_eq_true rfl]
  go_wp2_with fail
  refine (put_any _ _ _ a id _ rfl hnc hcm (hs.on b5) (by omega)).mono ?_
  rintro e w6 ⟨A6, c6, rfl, o6, b6'⟩
  have b6 := below_on b5 b6'
  rw [HPut.out] at o6 ⊢
  have s6 := o6.sees
  go_wp2_with fail
  refine (ref_put _ _ _ a id _ rfl hnc hcm (hs.on b6) (by omega)).mono ?_
  rintro e w7 ⟨A7, c7, rfl, o7, b7'⟩
  have b7 := below_on b6 b7'
  have s7 := o7.sees
  replace s6 := s6.on b7'
  go_wp2_with fail
  refine (ref_ints _ _ _ _ _ _ _ _ _ rfl s6 rfl s7 (by omega) (by omega)).mono ?_
  rintro e w8 ⟨rfl, b8'⟩
  have b8 := below_on b7 b8'
  rw [decide_eq_true rfl]
  go_wp2_with fail
  refine (drop_any _ _ _ a id _ rfl hnc hcm (hs.on b8) (by omega)).mono ?_
  rintro e w9 ⟨A9, c9, rfl, o9, b9'⟩
  have b9 := below_on b8 b9'
  rw [HDrop.out] at o9 ⊢
  have s9 := o9.sees
  go_wp2_with fail
  refine (ref_drop _ _ _ a id _ rfl (hs.on b9) (by omega)).mono ?_
  rintro e w10 ⟨A10, c10, rfl, o10, b10'⟩
  have b10 := below_on b9 b10'
  have s10 := o10.sees
  replace s9 := s9.on b10'
  go_wp2_with fail
  refine (ref_ints _ _ _ _ _ _ _ _ _ rfl s9 rfl s10 (by omega) (by omega)).mono ?_
  rintro e w11 ⟨rfl, b11'⟩
  have b11 := below_on b10 b11'
  rw [decide_eq_true rfl]
  go_wp2_with fail
  refine (ids_awake _).mono ?_
  rintro e w17 ⟨rfl, b17'⟩
  go_wp2
  go_ret
  exact ⟨rfl, below_on b11 b17'⟩

theorem walk_one (A : Option Addr) (c : Nat) (a : List Int) (id : Int) (w : World) (hnc : a.length ≤ c) (hcm : c ≤ maxLen) (hs : Sees w w.heap.size A (ivs a)) :
    Calls Try.prog 10 #[.slice A a.length c, .int .i64 id] w fun e w' => e = .returned (.bool true) ∧ Below w.heap.size w w' := by
  have hla : a.length ≤ 9223372036854775807 := by unfold maxLen at hcm; omega
  by_cases h1 : a.length ≤ 300
  · by_cases ra : Rise a
    · exact walk_one_main A c a id w hnc hcm hs h1 ra
    · have HA := Lib.hid (show decide (Rise a) = false from decide_eq_false ra)
      clear ra
      go_enter Try.func10, Try.ntmps10
      go_wp2_with fail
      refine (check_any _ _ _ a _ rfl hs (by omega)).mono ?_
      rintro e w0 ⟨rfl, rfl⟩
      rw [HA.out]
      go_wp2_with fail
      refine (ref_check _ _ _ a _ rfl hs (by omega)).mono ?_
      rintro e w1 ⟨rfl, b1⟩
      rw [HA.out]
      go_wp2_with fail
      refine (ref_check _ _ _ a _ rfl (hs.on b1) (by omega)).mono ?_
      rintro e w2 ⟨rfl, b2'⟩
      rw [HA.out]
      have b2 := below_on b1 b2'
      go_wp2_with fail
      refine (ids_awake _).mono ?_
      rintro e w3 ⟨rfl, b3⟩
      go_wp2
      go_ret
      exact ⟨rfl, below_on b2 b3⟩
  · have h1' : (300 : Int) < a.length := by omega
    go_enter Try.func10, Try.ntmps10
    go_wp2_with fail
    refine (ids_awake _).mono ?_
    rintro e w3 ⟨rfl, b3⟩
    go_wp2
    go_ret
    exact ⟨rfl, b3⟩

set_option maxRecDepth 100000 in
theorem idsOne_lifted (os : Os) (started : os.Started) (H : Type) (enc : TypeId × Value → H) :
    ReturnsInHanded {} Try.checked os 10 .any (Rows.idsOneSpec.pre6 enc Try.prog Try.f10 Rows.idsOneRow.domain false)
      (Rows.idsOneSpec.post enc Try.prog Try.f10 false true false false) := by
  refine returnsInHanded_of_change (C := Try.checked) own started (by kernel_rfl) Try.func10
    (ChangeSpec.witness6 (enc := enc) (C := Try.checked) false ⟨#[], #[.slice none 0 0, .int .i64 0], []⟩ 8 (by kernel_rfl) (by kernel_rfl) (by kernel_rfl) (by kernel_rfl)) ?_
  intro W base args ds gs before hval hW _ _
  have hW' := hW
  obtain ⟨p, q, hA, hV, rfl, hfz, hnd⟩ := hW
  rw [Try.params10] at hA hval
  obtain ⟨v0, vs0, d0, ds0, p0, q0, hargs, rfl, rfl, h0, r0⟩ := trodAll_cons hA
  obtain ⟨v1, vs1, d1, ds1, p1, q1, rfl, rfl, rfl, h1, r1⟩ := trodAll_cons r0
  obtain ⟨rfl, rfl, rfl⟩ := trodAll_nil r1
  obtain rfl : args = #[v0, v1] := by cases args; simp_all
  obtain ⟨A0, n0, c0, l0, rfl, hnc0, hcm0, rfl, hw0, hs0⟩ := open_intlist Try.underlying59 Try.underlying3 (by kernel_rfl) (hval 0 59 v0 rfl rfl) h0
  obtain ⟨a1, rfl, rfl, rfl, wf1⟩ := open_int Try.underlying3 (hval 1 3 v1 rfl rfl) h1
  refine (walk_one A0 c0 l0 a1 W hnc0 hcm0 hs0).mono fun e W' ⟨he, hb⟩ => ?_
  subst he
  exact ⟨_, rfl, law_post laidOut (by intro t ht; revert t ht; decide +kernel) rfl rfl boolT rfl hW' hb⟩

theorem IdsOne_holds : Rows.IdsOneSaid :=
  OpenClaim.holds_of_wide 10 Try.f10 rfl rfl rfl rfl rfl rfl rfl ⟨rfl, rfl, rfl, rfl, rfl⟩ rfl rfl rfl rfl rfl (by kernel_rfl) Try.func10 (by kernel_rfl)
    (of_decide_eq_true (by kernel_rfl)) (by unfold Func.isWrapper; first | (rw [if_pos (by decide +kernel)]; kernel_rfl) | (rw [if_neg (by decide +kernel)]; exact ⟨rfl, rfl⟩))
    (fun os started H enc _ => idsOne_lifted os started H enc)
end Go.Proofs.Ytgnkkbgphghioaa
