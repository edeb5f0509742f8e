/- SumJoins: the sum of bytes that stand behind others comes of both sums: for every input. No condition. -/
import Derived.Test.YtgnkkbgphghioaaSumB
import Derived.Test.YtgnkkbgphghioaaSumD
namespace Go.Proofs.Ytgnkkbgphghioaa
set_option linter.unusedVariables false
open Go.ChangeShapes Go.WideShapes Go.ChangeAt Go.RowKit SumM


set_option maxHeartbeats 800000 in
theorem walk_joins (A B : Option Addr) (ca cb : Nat) (a b : List UInt8) (w : World) (ha : Sees w w.heap.size A (bvs a)) (hb : Sees w w.heap.size B (bvs b)) (hla : a.length ≤ maxLen) (hlb : b.length ≤ maxLen) :
    Calls Try.prog 8 #[.slice A a.length ca, .slice B b.length cb] w fun e w' => e = .returned (.bool true) ∧ Below w.heap.size w w' := by
  unfold maxLen at hla hlb
  obtain ⟨i0, hi, hz0, hz1, hz2⟩ := info_parts u8_info
  by_cases h1 : a.length ≤ 2000
  · by_cases h2 : b.length ≤ 2000
    · have hfin := Lib.hid (sumOf_append a b)
      go_enter Try.func8, Try.ntmps8
      go_wp2_with (first
        | (at_builtin
           refine wpList_app _ rfl (.tmp 15) (.tmp 16) _ rfl w.heap.size 5 i0 _ 1 Try.underlying22 hi hz0 hz1 hz2 rfl (.slice (some ⟨w.heap.size, 0, none⟩) 0 0) [] 0 rfl rfl (own_lit w w.heap.size 5 #[] (Nat.le_refl _) (by simp [maxLen])) w.heap.size A ca (bvs a) a.length rfl (bvs_length a) (ha.alloc (Nat.le_refl _) _) (bvs_one a) (by simp [maxLen]; omega) (by omega) (by simp) ?_
           intro A1 c1 w1 hown1 hb1 hg1 hat1; simp only [Nat.zero_add, List.nil_append] at hown1 hat1)
        | (at_builtin
           refine wpList_app _ rfl (.tmp 17) (.tmp 18) _ rfl w.heap.size 5 i0 _ 1 Try.underlying22 hi hz0 hz1 hz2 rfl (.slice A1 a.length c1) (bvs a) a.length rfl (bvs_length a) hown1 w.heap.size B cb (bvs b) b.length rfl (bvs_length b) ((hb.alloc (Nat.le_refl _) _).below hb1) (bvs_one b) (by simp [maxLen]; omega) (by omega) (by have := hg1.size; simp at this; omega) ?_
           intro A2 c2 w2 hown2 hb2 hg2 hat2)
        | fail)
      have hbw1 : Below w.heap.size w w1 := ((Below.refl _ _).alloc (Nat.le_refl _) _).trans hb1
      have hbw2 : Below w.heap.size w w2 := hbw1.trans hb2
      rw [← bvs_append] at hown2
      refine (of_any _ _ _ (a ++ b) _ _ (by simp) hown2.sees (by simp [maxLen]; omega)).mono ?_
      rintro e w' ⟨rfl, rfl⟩
      go_wp2_with fail
      refine (of_any _ _ _ a _ _ rfl (ha.below hbw2) (by simp [maxLen]; omega)).mono ?_
      rintro e w' ⟨rfl, rfl⟩
      go_wp2_with fail
      refine (of_any _ _ _ b _ _ rfl (hb.below hbw2) (by simp [maxLen]; omega)).mono ?_
      rintro e w' ⟨rfl, rfl⟩
      go_wp2_with fail
      refine (join_any _ _ _ (by omega) _).mono ?_
      rintro e w' ⟨rfl, rfl⟩
      rw [hfin.out]
      go_wp2_with fail
      refine (sum_awake _).mono ?_
      rintro e w' ⟨rfl, hbel⟩
      go_wp2
      go_ret
      exact ⟨rfl, hbw2.trans (hbel.mono hbw2.size)⟩
    · have h2' : (2000 : Int) < b.length := by omega
      go_enter Try.func8, Try.ntmps8
      go_wp2_with fail
      refine (sum_awake _).mono ?_
      rintro e w' ⟨rfl, hbel⟩
      go_wp2
      go_ret
      exact ⟨rfl, hbel⟩
  · have h1' : (2000 : Int) < a.length := by omega
    go_enter Try.func8, Try.ntmps8
    go_wp2_with fail
    refine (sum_awake _).mono ?_
    rintro e w' ⟨rfl, hbel⟩
    go_wp2
    go_ret
    exact ⟨rfl, hbel⟩

set_option maxRecDepth 100000 in
theorem joins_lifted (os : Os) (started : os.Started) (H : Type) (enc : TypeId × Value → H) :
    ReturnsInHanded {} Try.checked os 8 .any (Rows.sumJoinsSpec.pre6 enc Try.prog Try.f8 Rows.sumJoinsRow.domain false)
      (Rows.sumJoinsSpec.post enc Try.prog Try.f8 false true false false) := by
  refine returnsInHanded_of_change (C := Try.checked) own started (by kernel_rfl) Try.func8
    (ChangeSpec.witness6 (enc := enc) (C := Try.checked) false ⟨#[], #[.slice none 0 0, .slice none 0 0], []⟩ 8 (by kernel_rfl) (by kernel_rfl) (by kernel_rfl) (by kernel_rfl)) ?_
  intro W base args ds gs before hval hW _ _
  have hW' := hW
  obtain ⟨p, q, hA, hV, rfl, hfz, hnd⟩ := hW
  rw [Try.params8] at hA hval
  obtain ⟨v0, vs0, d0, ds0, p0, q0, hargs, rfl, rfl, h0, r0⟩ := trodAll_cons hA
  obtain ⟨v1, vs1, d1, ds1, p1, q1, rfl, rfl, rfl, h1, r1⟩ := trodAll_cons r0
  obtain ⟨rfl, rfl, rfl⟩ := trodAll_nil r1
  obtain rfl : args = #[v0, v1] := by cases args; simp_all
  obtain ⟨A, n, c, l, rfl, hnc, hcm, rfl, hs⟩ := open_bytes Try.underlying22 Try.underlying5 (by kernel_rfl) (hval 0 22 v0 rfl rfl) h0
  obtain ⟨A', n', c', l', rfl, hnc', hcm', rfl, hs'⟩ := open_bytes Try.underlying22 Try.underlying5 (by kernel_rfl) (hval 1 22 v1 rfl rfl) h1
  refine (walk_joins A A' c c' l l' W hs hs' (by omega) (by omega)).mono fun e W' ⟨he, hb⟩ => ?_
  subst he
  exact ⟨_, rfl, law_post laidOut (by intro t ht; revert t ht; decide +kernel) rfl rfl Try.underlying4 rfl hW' hb⟩

theorem SumJoins_holds : Rows.SumJoinsSaid :=
  OpenClaim.holds_of_wide 8 Try.f8 rfl rfl rfl rfl rfl rfl rfl ⟨rfl, rfl, rfl, rfl, rfl⟩ rfl rfl rfl rfl rfl (by kernel_rfl) Try.func8 (by kernel_rfl)
    (of_decide_eq_true (by kernel_rfl)) (by unfold Func.isWrapper; first | (rw [if_pos (by decide +kernel)]; kernel_rfl) | (rw [if_neg (by decide +kernel)]; exact ⟨rfl, rfl⟩))
    (fun os started H enc _ => joins_lifted os started H enc)
end Go.Proofs.Ytgnkkbgphghioaa
