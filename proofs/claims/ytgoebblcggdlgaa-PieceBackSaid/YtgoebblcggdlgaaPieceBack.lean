/- PieceBack: a piece is got of its sector, and a record joined of its pieces; of pieces of which one lacks, or two are changed about, there is none: for every input. No condition. -/
import Derived.Test.YtgoebblcggdlgaaPieR
import Derived.Test.YtgoebblcggdlgaaPieW
import Derived.Test.YtgoebblcggdlgaaBase
import Derived.ChangeMaps5
namespace Go.Proofs.Ytgoebblcggdlgaa
set_option linter.unusedVariables false
open Go.ChangeShapes Go.WideShapes Go.ChangeAt Go.RowKit
open Go.ChangeMaps (open_string shut_string)
theorem two_of {zs : List Int} (h : zs.length = 2) : ∃ z0 z1, zs = [z0, z1] := by
  match zs, h with
  | [z0, z1], _ => exact ⟨z0, z1, rfl⟩
theorem u8_wf2 {z : Int} (h : (Lit.int .u8 z).wf = true) : ∃ x : Nat, z = (x : Int) ∧ x < 256 := by
  have h2 : 0 ≤ z ∧ z ≤ 255 := by simpa [Lit.wf, IntKind.min, IntKind.max, IntKind.signed, IntKind.bits] using h
  exact ⟨z.toNat, by omega, by omega⟩
theorem pback_all (x y : Nat) (r : List UInt8) (ka kb : Nat) (w : World) (hx : x < 4294967296) (hy : y < 4294967296) (hka : ka < 256) (hkb : kb < 256) (hr : r.length ≤ maxLen) :
    Calls Try.prog 5 #[.agg #[.int .u32 (x : Int), .int .u32 (y : Int)], .string (str r), .agg #[.int .u8 (ka : Int), .int .u8 (kb : Int)]] w fun e w' => e = .returned (.bool true) ∧ Below w.heap.size w w' := by
  by_cases h : x = 0
  · subst h
    exact walk_pback0 y r ka kb w hr
  · exact walk_pback x y r ka kb w hx hy hka hkb hr h

set_option maxRecDepth 100000 in
theorem pieceBack_lifted (os : Os) (started : os.Started) (H : Type) (enc : TypeId × Value → H) :
    ReturnsInHanded {} Try.checked os 5 .any (Rows.pieceBackSpec.pre6 enc Try.prog Try.f5 Rows.pieceBackRow.domain false)
      (Rows.pieceBackSpec.post enc Try.prog Try.f5 false true false false) := by
  refine returnsInHanded_of_change (C := Try.checked) own started (by kernel_rfl) Try.func5
    (ChangeSpec.witness6 (enc := enc) (C := Try.checked) false ⟨#[], #[.agg #[.int .u32 0, .int .u32 0], .string .empty, .agg #[.int .u8 0, .int .u8 0]], []⟩ 8 (by kernel_rfl) (by kernel_rfl) (by kernel_rfl) (by kernel_rfl)) ?_
  intro W base args ds gs before hval hW _ _
  have hW' := hW
  obtain ⟨p, q, hA, hV, rfl, hfz, hnd⟩ := hW
  rw [Try.params5] at hA hval
  obtain ⟨v0, vs0, d0, ds0, p0, q0, hargs, rfl, rfl, h0, r0⟩ := trodAll_cons hA
  obtain ⟨v1, vs1, d1, ds1, p1, q1, rfl, rfl, rfl, h1, r1⟩ := trodAll_cons r0
  obtain ⟨v2, vs2, d2, ds2, p2, q2, rfl, rfl, rfl, h2, r2⟩ := trodAll_cons r1
  obtain ⟨rfl, rfl, rfl⟩ := trodAll_nil r2
  obtain rfl : args = #[v0, v1, v2] := by cases args; simp_all
  obtain ⟨zs0, rfl, hzl0, hzw0⟩ := open_array Try.underlying51 Try.underlying50 (by kernel_rfl) (by kernel_rfl) (hval 0 51 v0 rfl rfl) h0
  obtain ⟨s1, rfl, rfl, rfl, hsz1⟩ := open_string Try.underlying9 (hval 1 9 v1 rfl rfl) h1
  obtain ⟨zs2, rfl, hzl2, hzw2⟩ := open_array Try.underlying52 Try.underlying5 (by kernel_rfl) (by kernel_rfl) (hval 2 52 v2 rfl rfl) h2
  obtain ⟨z0, z1, rfl⟩ := two_of hzl0
  obtain ⟨x0, rfl⟩ := u32_wf (hzw0 z0 (by simp))
  obtain ⟨x1, rfl⟩ := u32_wf (hzw0 z1 (by simp))
  obtain ⟨k0, k1, rfl⟩ := two_of hzl2
  obtain ⟨y0, rfl, hy0⟩ := u8_wf2 (hzw2 k0 (by simp))
  obtain ⟨y1, rfl, hy1⟩ := u8_wf2 (hzw2 k1 (by simp))
  rw [← str_eta s1]
  refine (pback_all x0.toNat x1.toNat s1.data.toList y0 y1 W x0.isLt x1.isLt hy0 hy1 (by simpa using hsz1)).mono fun e W' ⟨he, hb⟩ => ?_
  subst he
  exact ⟨_, rfl, law_post laidOut (by intro t ht; revert t ht; decide +kernel) rfl rfl boolT rfl hW' hb⟩

theorem PieceBack_holds : Rows.PieceBackSaid :=
  OpenClaim.holds_of_wide 5 Try.f5 rfl rfl rfl rfl rfl rfl rfl ⟨rfl, rfl, rfl, rfl, rfl⟩ rfl rfl rfl rfl rfl (by kernel_rfl) Try.func5 (by kernel_rfl)
    (of_decide_eq_true (by kernel_rfl)) (by unfold Func.isWrapper; first | (rw [if_pos (by decide +kernel)]; kernel_rfl) | (rw [if_neg (by decide +kernel)]; exact ⟨rfl, rfl⟩))
    (fun os started H enc _ => pieceBack_lifted os started H enc)
end Go.Proofs.Ytgoebblcggdlgaa
