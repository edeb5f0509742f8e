/- IdsParts: either has what both and what each alone have; Put and Drop undo one another: for every input. No condition. -/
import Derived.Test.YtgnkkbgphghioaaIdsD
import Derived.Test.YtgnkkbgphghioaaBase
namespace Go.Proofs.Ytgnkkbgphghioaa
set_option linter.unusedVariables false
open Go.ChangeShapes Go.WideShapes Go.ChangeAt Go.RowKit IdsM

theorem Sees.on {w w' : World} {A : Option Addr} {xs : List Value} (h : Sees w w.heap.size A xs) (hb : Below w.heap.size w w') : Sees w' w'.heap.size A xs := (h.below hb).more hb.size
theorem below_on {w w1 w2 : World} (h : Below w.heap.size w w1) (h2 : Below w1.heap.size w1 w2) : Below w.heap.size w w2 := h.trans (h2.mono h.size)

set_option maxHeartbeats 1600000 in
theorem walk_parts_main (A : Option Addr) (c : Nat) (a : List Int) (B : Option Addr) (d : Nat) (b : List Int) (id : Int) (w : World) (hnc : a.length ≤ c) (hcm : c ≤ maxLen) (hs : Sees w w.heap.size A (ivs a))
    (hmd : b.length ≤ d) (hdm : d ≤ maxLen) (ht : Sees w w.heap.size B (ivs b)) (h1 : a.length ≤ 300) (h2 : b.length ≤ 300) (ra : Rise a) (rb : Rise b) :
    Calls Try.prog 12 #[.slice A a.length c, .slice B b.length d, .int .i64 id] w fun e w' => e = .returned (.bool true) ∧ Below w.heap.size w w' := by
  have HA := Lib.hid (show decide (Rise a) = true from decide_eq_true ra)
  have HB := Lib.hid (show decide (Rise b) = true from decide_eq_true rb)
  have HRA := Lib.hid ra
  have HRB := Lib.hid rb
  have hl1 := len_mrg_le fBoth a b
  have hl2 := len_mrg_le fMinus a b
  have hl3 := len_mrg_le fMinus b a
  have hl4 := len_mrg_le fEither (mrg fMinus a b) (mrg fMinus b a)
  have hl5 := len_mrg_le fEither (mrg fBoth a b) (mrg fEither (mrg fMinus a b) (mrg fMinus b a))
  have hl6 := len_mrg_le fEither b a
  have HP := Lib.hid (parts_eq ra rb)
  have HPL := Lib.hid (parts_len ra rb)
  clear ra rb
  go_enter Try.func12, Try.ntmps12
  go_wp2_with fail
  refine (ref_check _ _ _ a _ rfl hs (by omega)).mono ?_
  rintro e w1 ⟨rfl, b1⟩
  rw [HA.out]
  go_wp2_with fail
  refine (ref_check _ _ _ b _ rfl (ht.on b1) (by omega)).mono ?_
  rintro e w2 ⟨rfl, b2'⟩
  rw [HB.out]
  have b2 := below_on b1 b2'
  go_wp2_with fail
  refine (both_any _ _ _ a _ _ _ b _ rfl hnc hcm (hs.on b2) rfl hmd hdm (ht.on b2) (by omega) (by omega)).mono ?_
  rintro e w3 ⟨A3, c3, rfl, o3, b3'⟩
  have b3 := below_on b2 b3'
  have k3 := o3.cap
  have s3 := o3.sees
  go_wp2_with fail
  refine (minus_any _ _ _ a _ _ _ b _ rfl hnc hcm (hs.on b3) rfl hmd hdm (ht.on b3) (by omega) (by omega)).mono ?_
  rintro e w4 ⟨A4, c4, rfl, o4, b4'⟩
  have b4 := below_on b3 b4'
  have k4 := o4.cap
  have s4 := o4.sees
  replace s3 := s3.on b4'
  go_wp2_with fail
  refine (minus_any _ _ _ b _ _ _ a _ rfl hmd hdm (ht.on b4) rfl hnc hcm (hs.on b4) (by omega) (by omega)).mono ?_
  rintro e w5 ⟨A5, c5, rfl, o5, b5'⟩
  have b5 := below_on b4 b5'
  have k5 := o5.cap
  have s5 := o5.sees
  replace s3 := s3.on b5'
  replace s4 := s4.on b5'
  go_wp2_with fail
  refine (either_any _ _ _ (mrg fMinus a b) _ _ _ (mrg fMinus b a) _ rfl k4.1 k4.2 s4 rfl k5.1 k5.2 s5 (by omega) (by omega)).mono ?_
  rintro e w6 ⟨A6, c6, rfl, o6, b6'⟩
  have b6 := below_on b5 b6'
  have k6 := o6.cap
  have s6 := o6.sees
  replace s3 := s3.on b6'
  go_wp2_with fail
  refine (either_any _ _ _ (mrg fBoth a b) _ _ _ (mrg fEither (mrg fMinus a b) (mrg fMinus b a)) _ rfl k3.1 k3.2 s3 rfl k6.1 k6.2 s6 (by omega) (by omega)).mono ?_
  rintro e w7 ⟨A7, c7, rfl, o7, b7'⟩
  have b7 := below_on b6 b7'
  have s7 := o7.sees
  go_wp2_with fail
  refine (either_any _ _ _ b _ _ _ a _ rfl hmd hdm (ht.on b7) rfl hnc hcm (hs.on b7) (by omega) (by omega)).mono ?_
  rintro e w8 ⟨A8, c8, rfl, o8, b8'⟩
  have b8 := below_on b7 b8'
  have s8 := o8.sees
  replace s7 := s7.on b8'
  go_wp2_with fail
  refine (ref_ints _ _ _ _ _ _ _ _ _ rfl s7 rfl s8 (by omega) (by omega)).mono ?_
  rintro e w9 ⟨rfl, b9'⟩
  have b9 := below_on b8 b9'
  rw [decide_eq_true HP.out]
  go_wp2_with fail
  refine (both_any _ _ _ a _ _ _ b _ rfl hnc hcm (hs.on b9) rfl hmd hdm (ht.on b9) (by omega) (by omega)).mono ?_
  rintro e w10 ⟨A10, c10, rfl, o10, b10'⟩
  have b10 := below_on b9 b10'
  have hpl : (((mrg fEither (mrg fBoth a b) (mrg fEither (mrg fMinus a b) (mrg fMinus b a))).length : Int) + ((mrg fBoth a b).length : Int) != (a.length : Int) + (b.length : Int)) = false := by
    have := HPL.out
    rw [bne_eq_false_iff_eq]; omega
  go_wp2_with fail
  refine (put_any _ _ _ a id _ rfl hnc hcm (hs.on b10) (by omega)).mono ?_
  rintro e w11 ⟨A11, c11, rfl, o11, b11'⟩
  have b11 := below_on b10 b11'
  have k11 := o11.cap
  have hl7 : (put a id).length ≤ a.length + 1 := by
    unfold put
    split
    · have := len_mrg_le fEither a [id]; simpa using this
    · omega
  go_wp2_with fail
  refine (drop_any _ _ _ (put a id) id _ rfl k11.1 k11.2 o11.sees (by omega)).mono ?_
  rintro e w12 ⟨A12, c12, rfl, o12, b12'⟩
  have b12 := below_on b11 b12'
  have s12 := o12.sees
  have hl8 : (drop (put a id) id).length ≤ a.length + 2 := by
    have := len_mrg_le fMinus (put a id) [id]
    simp at this; unfold drop; omega
  go_wp2_with fail
  refine (ref_has _ _ _ a id _ _ rfl (hs.on b12) (by omega)).mono ?_
  rintro e w13 ⟨rfl, rfl⟩
  by_cases hin : id ∈ a
  · have HPD := Lib.hid (put_drop HRA.out hin)
    rw [decide_eq_true hin]
    have HIN := Lib.hid hin
    clear hin
    go_wp2_with fail
    refine (drop_any _ _ _ a id _ rfl hnc hcm (hs.on b12) (by omega)).mono ?_
    rintro e w14 ⟨A14, c14, rfl, o14, b14'⟩
    have b14 := below_on b12 b14'
    have k14 := o14.cap
    have hl9 : (drop a id).length ≤ a.length + 1 := by
      have := len_mrg_le fMinus a [id]
      unfold drop; simpa using this
    go_wp2_with fail
    refine (put_any _ _ _ (drop a id) id _ rfl k14.1 k14.2 o14.sees (by omega)).mono ?_
    rintro e w15 ⟨A15, c15, rfl, o15, b15'⟩
    have b15 := below_on b14 b15'
    rw [HPD.out] at o15 ⊢
    go_wp2_with fail
    refine (ref_ints _ _ _ _ _ _ _ _ _ rfl o15.sees rfl (hs.on b15) (by omega) (by omega)).mono ?_
    rintro e w16 ⟨rfl, b16'⟩
    have b16 := below_on b15 b16'
    rw [decide_eq_true rfl]
    go_wp2_with fail
    refine (ids_awake _).mono ?_
    rintro e w17 ⟨rfl, b17'⟩
    go_wp2
    go_ret
    exact ⟨rfl, below_on b16 b17'⟩
  · have HDP := Lib.hid (drop_put HRA.out hin)
    rw [decide_eq_false hin]
    rw [HDP.out] at o12 s12 ⊢
    have HIN := Lib.hid hin
    clear hin
    go_wp2_with fail
    refine (ref_ints _ _ _ _ _ _ _ _ _ rfl s12 rfl (hs.on b12) (by omega) (by omega)).mono ?_
    rintro e w16 ⟨rfl, b16'⟩
    have b16 := below_on b12 b16'
    rw [decide_eq_true rfl]
    go_wp2_with fail
    refine (ids_awake _).mono ?_
    rintro e w17 ⟨rfl, b17'⟩
    go_wp2
    go_ret
    exact ⟨rfl, below_on b16 b17'⟩

theorem walk_parts (A : Option Addr) (c : Nat) (a : List Int) (B : Option Addr) (d : Nat) (b : List Int) (id : Int) (w : World) (hnc : a.length ≤ c) (hcm : c ≤ maxLen) (hs : Sees w w.heap.size A (ivs a))
    (hmd : b.length ≤ d) (hdm : d ≤ maxLen) (ht : Sees w w.heap.size B (ivs b)) :
    Calls Try.prog 12 #[.slice A a.length c, .slice B b.length d, .int .i64 id] w fun e w' => e = .returned (.bool true) ∧ Below w.heap.size w w' := by
  have hla : a.length ≤ 9223372036854775807 := by unfold maxLen at hcm; omega
  have hlb : b.length ≤ 9223372036854775807 := by unfold maxLen at hdm; omega
  by_cases h1 : a.length ≤ 300
  · by_cases h2 : b.length ≤ 300
    · by_cases ra : Rise a
      · by_cases rb : Rise b
        · exact walk_parts_main A c a B d b id w hnc hcm hs hmd hdm ht h1 h2 ra rb
        · have HA := Lib.hid (show decide (Rise a) = true from decide_eq_true ra)
          have HB := Lib.hid (show decide (Rise b) = false from decide_eq_false rb)
          clear ra rb
          go_enter Try.func12, Try.ntmps12
          go_wp2_with fail
          refine (ref_check _ _ _ a _ rfl hs (by omega)).mono ?_
          rintro e w1 ⟨rfl, b1⟩
          rw [HA.out]
          go_wp2_with fail
          refine (ref_check _ _ _ b _ rfl (ht.on b1) (by omega)).mono ?_
          rintro e w2 ⟨rfl, b2⟩
          rw [HB.out]
          go_wp2_with fail
          refine (ids_awake _).mono ?_
          rintro e w3 ⟨rfl, b3⟩
          go_wp2
          go_ret
          exact ⟨rfl, below_on (below_on b1 b2) b3⟩
      · have HA := Lib.hid (show decide (Rise a) = false from decide_eq_false ra)
        clear ra
        go_enter Try.func12, Try.ntmps12
        go_wp2_with fail
        refine (ref_check _ _ _ a _ rfl hs (by omega)).mono ?_
        rintro e w1 ⟨rfl, b1⟩
        rw [HA.out]
        go_wp2_with fail
        refine (ids_awake _).mono ?_
        rintro e w3 ⟨rfl, b3⟩
        go_wp2
        go_ret
        exact ⟨rfl, below_on b1 b3⟩
    · have h2' : (300 : Int) < b.length := by omega
      go_enter Try.func12, Try.ntmps12
      go_wp2_with fail
      refine (ids_awake _).mono ?_
      rintro e w3 ⟨rfl, b3⟩
      go_wp2
      go_ret
      exact ⟨rfl, b3⟩
  · have h1' : (300 : Int) < a.length := by omega
    go_enter Try.func12, Try.ntmps12
    go_wp2_with fail
    refine (ids_awake _).mono ?_
    rintro e w3 ⟨rfl, b3⟩
    go_wp2
    go_ret
    exact ⟨rfl, b3⟩

set_option maxRecDepth 100000 in
theorem idsParts_lifted (os : Os) (started : os.Started) (H : Type) (enc : TypeId × Value → H) :
    ReturnsInHanded {} Try.checked os 12 .any (Rows.idsPartsSpec.pre6 enc Try.prog Try.f12 Rows.idsPartsRow.domain false)
      (Rows.idsPartsSpec.post enc Try.prog Try.f12 false true false false) := by
  refine returnsInHanded_of_change (C := Try.checked) own started (by kernel_rfl) Try.func12
    (ChangeSpec.witness6 (enc := enc) (C := Try.checked) false ⟨#[], #[.slice none 0 0, .slice none 0 0, .int .i64 0], []⟩ 8 (by kernel_rfl) (by kernel_rfl) (by kernel_rfl) (by kernel_rfl)) ?_
  intro W base args ds gs before hval hW _ _
  have hW' := hW
  obtain ⟨p, q, hA, hV, rfl, hfz, hnd⟩ := hW
  rw [Try.params12] at hA hval
  obtain ⟨v0, vs0, d0, ds0, p0, q0, hargs, rfl, rfl, h0, r0⟩ := trodAll_cons hA
  obtain ⟨v1, vs1, d1, ds1, p1, q1, rfl, rfl, rfl, h1, r1⟩ := trodAll_cons r0
  obtain ⟨v2, vs2, d2, ds2, p2, q2, rfl, rfl, rfl, h2, r2⟩ := trodAll_cons r1
  obtain ⟨rfl, rfl, rfl⟩ := trodAll_nil r2
  obtain rfl : args = #[v0, v1, v2] := by cases args; simp_all
  obtain ⟨A0, n0, c0, l0, rfl, hnc0, hcm0, rfl, hw0, hs0⟩ := open_intlist Try.underlying59 Try.underlying3 (by kernel_rfl) (hval 0 59 v0 rfl rfl) h0
  obtain ⟨A1, n1, c1, l1, rfl, hnc1, hcm1, rfl, hw1, hs1⟩ := open_intlist Try.underlying59 Try.underlying3 (by kernel_rfl) (hval 1 59 v1 rfl rfl) h1
  obtain ⟨a2, rfl, rfl, rfl, wf2⟩ := open_int Try.underlying3 (hval 2 3 v2 rfl rfl) h2
  refine (walk_parts A0 c0 l0 A1 c1 l1 a2 W hnc0 hcm0 hs0 hnc1 hcm1 hs1).mono fun e W' ⟨he, hb⟩ => ?_
  subst he
  exact ⟨_, rfl, law_post laidOut (by intro t ht; revert t ht; decide +kernel) rfl rfl boolT rfl hW' hb⟩

theorem IdsParts_holds : Rows.IdsPartsSaid :=
  OpenClaim.holds_of_wide 12 Try.f12 rfl rfl rfl rfl rfl rfl rfl ⟨rfl, rfl, rfl, rfl, rfl⟩ rfl rfl rfl rfl rfl (by kernel_rfl) Try.func12 (by kernel_rfl)
    (of_decide_eq_true (by kernel_rfl)) (by unfold Func.isWrapper; first | (rw [if_pos (by decide +kernel)]; kernel_rfl) | (rw [if_neg (by decide +kernel)]; exact ⟨rfl, rfl⟩))
    (fun os started H enc _ => idsParts_lifted os started H enc)
end Go.Proofs.Ytgnkkbgphghioaa
