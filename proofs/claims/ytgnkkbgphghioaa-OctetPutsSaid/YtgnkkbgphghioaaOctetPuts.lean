/- OctetPuts: numbers, texts and truths have the document's bytes, behind any bytes: for every input. No condition. -/
import Derived.Test.YtgnkkbgphghioaaOctetPutsA
namespace Go.Proofs.Ytgnkkbgphghioaa
set_option linter.unusedVariables false
open Go.ChangeShapes Go.WideShapes Go.ChangeAt Go.RowKit OctM
open Go.ChangeMaps (open_string shut_string)

set_option maxHeartbeats 800000 in
theorem walk_puts (z : Int) (s : ByteArray) (A : Option Addr) (c : Nat) (m : List UInt8) (w : World) (hnc : m.length ≤ c) (hcm : c ≤ maxLen) (hs : Sees w w.heap.size A (bvs m)) (hsz : s.size ≤ 9223372036854775807) :
    Calls Try.prog 3 #[.slice A m.length c, .int .i64 z, .string s] w fun e w' => e = .returned (.bool true) ∧ Below w.heap.size w w' := by
  have hlm : m.length ≤ 9223372036854775807 := by unfold maxLen at hcm; omega
  by_cases h3 : 1000 < m.length
  · have d3 : decide ((1000 : Int) < (m.length : Int)) = true := by simp; omega
    go_enter Try.func3, Try.ntmps3
    go_wp2_with fail
    refine (oct_awake _).mono ?_
    rintro e w3 ⟨rfl, b3⟩
    go_wp2
    go_ret
    exact ⟨rfl, b3⟩
  · have d3 : decide ((1000 : Int) < (m.length : Int)) = false := by simp; omega
    by_cases h2 : 1000 < s.size
    · have d2 : decide ((1000 : Int) < (s.size : Int)) = true := by simp; omega
      go_enter Try.func3, Try.ntmps3
      go_wp2_with fail
      refine (oct_awake _).mono ?_
      rintro e w3 ⟨rfl, b3⟩
      go_wp2
      go_ret
      exact ⟨rfl, b3⟩
    · obtain ⟨t, rfl⟩ : ∃ t, s = str t := ⟨s.data.toList, (str_eta s).symm⟩
      rw [str_size] at h2
      exact walk_puts_main z t A c m w hnc hcm hs (by omega) (by omega)

set_option maxRecDepth 100000 in
theorem octetPuts_lifted (os : Os) (started : os.Started) (H : Type) (enc : TypeId × Value → H) :
    ReturnsInHanded {} Try.checked os 3 .any (Rows.octetPutsSpec.pre6 enc Try.prog Try.f3 Rows.octetPutsRow.domain false)
      (Rows.octetPutsSpec.post enc Try.prog Try.f3 false true false false) := by
  refine returnsInHanded_of_change (C := Try.checked) own started (by kernel_rfl) Try.func3
    (ChangeSpec.witness6 (enc := enc) (C := Try.checked) false ⟨#[], #[.slice none 0 0, .int .i64 0, .string .empty], []⟩ 8 (by kernel_rfl) (by kernel_rfl) (by kernel_rfl) (by kernel_rfl)) ?_
  intro W base args ds gs before hval hW _ _
  have hW' := hW
  obtain ⟨p, q, hA, hV, rfl, hfz, hnd⟩ := hW
  rw [Try.params3] at hA hval
  obtain ⟨v0, vs0, d0, ds0, p0, q0, hargs, rfl, rfl, h0, r0⟩ := trodAll_cons hA
  obtain ⟨v1, vs1, d1, ds1, p1, q1, rfl, rfl, rfl, h1, r1⟩ := trodAll_cons r0
  obtain ⟨v2, vs2, d2, ds2, p2, q2, rfl, rfl, rfl, h2, r2⟩ := trodAll_cons r1
  obtain ⟨rfl, rfl, rfl⟩ := trodAll_nil r2
  obtain rfl : args = #[v0, v1, v2] := by cases args; simp_all
  obtain ⟨A0, n0, c0, l0, rfl, hnc0, hcm0, rfl, hs0⟩ := open_bytes Try.underlying22 Try.underlying5 (by kernel_rfl) (hval 0 22 v0 rfl rfl) h0
  obtain ⟨a1, rfl, rfl, rfl, wf1⟩ := open_int Try.underlying3 (hval 1 3 v1 rfl rfl) h1
  obtain ⟨s2, rfl, rfl, rfl, hsz2⟩ := open_string Try.underlying9 (hval 2 9 v2 rfl rfl) h2
  refine (walk_puts a1 s2 A0 c0 l0 W hnc0 hcm0 hs0 (by have := hsz2; unfold maxLen at this; omega)).mono fun e W' ⟨he, hb⟩ => ?_
  subst he
  exact ⟨_, rfl, law_post laidOut (by intro t ht; revert t ht; decide +kernel) rfl rfl boolT rfl hW' hb⟩

theorem OctetPuts_holds : Rows.OctetPutsSaid :=
  OpenClaim.holds_of_wide 3 Try.f3 rfl rfl rfl rfl rfl rfl rfl ⟨rfl, rfl, rfl, rfl, rfl⟩ rfl rfl rfl rfl rfl (by kernel_rfl) Try.func3 (by kernel_rfl)
    (of_decide_eq_true (by kernel_rfl)) (by unfold Func.isWrapper; first | (rw [if_pos (by decide +kernel)]; kernel_rfl) | (rw [if_neg (by decide +kernel)]; exact ⟨rfl, rfl⟩))
    (fun os started H enc _ => octetPuts_lifted os started H enc)
end Go.Proofs.Ytgnkkbgphghioaa
