/- The document's mask of a text: what it returns. -/
import Derived.Test.YtgdidamjgaegkaaDoorMskD
namespace Go.Proofs.YtgdidamjgaegkaaDoor
set_option linter.unusedVariables false
open Go Go.RowKit BitM MskM

/-- What a mask's text is read as. -/
def mout (t : List UInt8) : Nat × Bool := match mrd t with
  | some m => (m, true)
  | none => (0, false)

set_option maxRecDepth 100000 in
set_option maxHeartbeats 1600000 in
theorem rmread_any (s : ByteArray) (w : World) : Calls Tryd.prog 66 #[.string s] w fun e w' =>
    e = .returned (.tuple #[.int .u32 ((mout s.data.toList).1 : Int), .bool (mout s.data.toList).2]) ∧ Below w.heap.size w w' := by
  have HSH := Lib.hid (fun (m : Nat) (hm : m < 512) (wx : World) => (show Calls Tryd.prog 68 #[.int .u32 (m : Int)] wx fun e w' => e = .returned (.string (str (mtx m))) ∧ Below wx.heap.size wx w' from by
    have := rmshow_any (BitVec.ofNat 32 m) wx
    rw [BitVec.toNat_ofNat, Nat.mod_eq_of_lt (by omega)] at this
    exact this))
  go_enter Tryd.func66, Tryd.ntmps66
  go_wp2_with fail
  go_loopw [4] (fun i wr => ∃ k : Nat, k ≤ 512 ∧ i = .int .u32 k ∧ Hid (∀ j, j < k → mtx j ≠ s.data.toList) ∧ Below w.heap.size w wr) (fun i _ => 512 - (intOf i).toNat)
  case atStart => exact ⟨0, by omega, rfl, Lib.hid (fun j hj => absurd hj (by omega)), Below.refl _ _⟩
  case round =>
    obtain ⟨k, hk, rfl, HK, hbr⟩ := hrel
    by_cases hlt : k < 512
    · have hk8 : (k : Int) ≤ 511 := by omega
      by_cases he : mtx k = s.data.toList
      · have HS := Lib.hid (HSH.out k hlt)
        rw [he, str_eta] at HS
        have HO : Hid (mout s.data.toList = (k, true)) := Lib.hid (by rw [← he]; unfold mout; rw [mrd_mtx k hlt])
        clear he
        go_wp2_with fail
        refine (HS.out _).mono ?_
        rintro e w1 ⟨rfl, hb⟩
        have hb1 := hbr.trans (hb.mono hbr.size)
        go_wp2_with fail
        go_ret2
        exact ⟨by rw [HO.out]; rfl, hb1⟩
      · have HS := Lib.hid (HSH.out k hlt)
        have hne : ((str (mtx k)).toList == s.toList) = false := by
          rw [beq_eq_false_iff_ne, str_list, ByteArray.toList_eq]
          exact he
        have HN := Lib.hid he
        obtain ⟨u, hu⟩ : ∃ u, u = str (mtx k) := ⟨_, rfl⟩
        rw [← hu] at hne HS
        clear he hu
        go_wp2_with fail
        refine (HS.out _).mono ?_
        rintro e w1 ⟨rfl, hb⟩
        have hb1 := hbr.trans (hb.mono hbr.size)
        go_wp2_with fail
        go_roundw
        case rel => exact ⟨k + 1, by omega, by go_num, Lib.hid (fun j hj => by
          by_cases e : j = k
          · subst e; exact HN.out
          · exact HK.out j (by omega)), hb1⟩
        case measure => simp [intOf]; omega
    · obtain rfl : k = 512 := by omega
      have HO : Hid (mout s.data.toList = (0, false)) := Lib.hid (by
        unfold mout
        cases h : mrd s.data.toList with
        | none => rfl
        | some m => exact absurd (mrd_some h).2 (HK.out m (mrd_some h).1))
      go_wp2_with fail
      go_ret2
      exact ⟨by rw [HO.out]; rfl, hbr⟩
end Go.Proofs.YtgdidamjgaegkaaDoor
