/- The document's lists of what is in a set, and of a mask's fields: what each returns. -/
import Derived.Test.YtgdidamjgaegkaaDoorBitN
import Derived.Test.YtgdidamjgaegkaaDoorMskM
namespace Go.Proofs.YtgdidamjgaegkaaDoor
set_option linter.unusedVariables false
open Go Go.RowKit BitM

def GivesL (w : World) (l : List Int) (e : Ending) (w' : World) : Prop :=
  ∃ A c, e = .returned (.slice A l.length c) ∧ Own w' w.heap.size 3 (.slice A l.length c) (ivs l) ∧ Below w.heap.size w w'

set_option maxHeartbeats 1600000 in
theorem rlist_any (x : BitVec 32) (w : World) : Calls Tryd.prog 20 #[.int .u32 (x.toNat : Int)] w (GivesL w (lst x 32)) := by
  obtain ⟨i0, hi, hz0, hz1, hz2⟩ := info_parts info_int
  have HH := Lib.hid (fun (k : Int) (wx : World) => rhas_any x k wx)
  go_enter Tryd.func20, Tryd.ntmps20
  go_wp2_with fail
  go_loopw [3, 4] (fun v i wr => ∃ k : Nat, k ≤ 32 ∧ i = .int .i64 k ∧ (∃ A1 c1, v = .slice A1 (lst x k).length c1 ∧ Own wr w.heap.size 3 v (ivs (lst x k))) ∧ Below w.heap.size w wr) (fun _ i _ => 32 - (intOf i).toNat)
  case atStart => exact ⟨0, Nat.zero_le _, rfl, ⟨some ⟨w.heap.size, 0, none⟩, 0, rfl, own_lit w w.heap.size 3 #[] (Nat.le_refl _) (by simp [maxLen])⟩, (Below.refl _ _).alloc (Nat.le_refl _) _⟩
  case round =>
    obtain ⟨k, hk, rfl, ⟨A1, c1, rfl, hown⟩, hbr⟩ := hrel
    have HS := Lib.hid (lst_succ x k)
    have hal := lst_len x k
    obtain ⟨acc, hacc⟩ : ∃ acc, acc = lst x k := ⟨_, rfl⟩
    rw [← hacc] at hown hal HS ⊢
    have HACC := Lib.hid hacc
    clear hacc
    obtain ⟨la, hla⟩ : ∃ la, la = acc.length := ⟨_, rfl⟩
    rw [← hla] at hown hal ⊢
    have HLA := Lib.hid hla
    clear hla
    by_cases hlt : k < 32
    · have d8 : (k : Int) < 32 := by omega
      cases hb : has x (k : Int) with
      | true =>
        have H1 := Lib.hid (HH.out (k : Int) wr)
        rw [hb] at H1 HS
        clear hb
        go_wp2_with fail
        refine H1.out.mono ?_
        rintro e w' ⟨rfl, rfl⟩
        go_wp2_with (first
          | (at_builtin
             refine wpList_app _ rfl (.tmp 13) (.tmp 15) _ rfl w.heap.size 3 i0 _ 8 Tryd.underlying23 hi hz0 hz1 hz2 rfl (.slice A1 la c1) (ivs acc) la rfl (by rw [ivs_length, HLA.out]) (hown.alloc _) (wr.heap.size + 1) (some ⟨wr.heap.size, 0, none⟩) 1 (ivs [(k : Int)]) 1 rfl rfl (sees_lit wr _ 3 (0, 0) _ rfl) (ivs_one _) (by simp [maxLen]; omega) (by omega) (by have := hbr.size; simp; omega) ?_
             intro A8 c8 w8 hown8 hb8 hg8 hat8)
          | fail)
        rw [← ivs_append] at hown8
        have hbr8 : Below w.heap.size w w8 := (hbr.alloc hbr.size _).trans hb8
        go_roundw
        case rel =>
          refine ⟨k + 1, by omega, by go_num, ⟨A8, c8, ?_, ?_⟩, hbr8⟩
          · rw [HS.out]; simp [HLA.out]
          · rw [HS.out]; simpa using hown8
        case measure => simp [intOf]; omega
      | false =>
        have H1 := Lib.hid (HH.out (k : Int) wr)
        rw [hb] at H1 HS
        clear hb
        go_wp2_with fail
        refine H1.out.mono ?_
        rintro e w' ⟨rfl, rfl⟩
        go_wp2_with fail
        go_roundw
        case rel =>
          refine ⟨k + 1, by omega, by go_num, ⟨A1, c1, ?_, ?_⟩, hbr⟩
          · rw [HS.out]; simp [HLA.out]
          · rw [HS.out]; simpa using hown
        case measure => simp [intOf]; omega
    · obtain rfl : k = 32 := by omega
      go_wp2_with fail
      go_ret
      rw [← HACC.out]
      exact ⟨A1, c1, (show Ending.returned (.slice A1 la c1) = _ from by rw [← HLA.out]), by rw [← HLA.out]; exact hown, hbr⟩

set_option maxHeartbeats 1600000 in
theorem rfields_any (x : BitVec 32) (w : World) : Calls Tryd.prog 58 #[.int .u32 (x.toNat : Int)] w (GivesL w (lst x 8)) := by
  obtain ⟨i0, hi, hz0, hz1, hz2⟩ := info_parts info_int
  have HH := Lib.hid (fun (k : Int) (wx : World) => rhas_any x k wx)
  go_enter Tryd.func58, Tryd.ntmps58
  go_wp2_with fail
  go_loopw [3, 4] (fun v i wr => ∃ k : Nat, k ≤ 8 ∧ i = .int .i64 k ∧ (∃ A1 c1, v = .slice A1 (lst x k).length c1 ∧ Own wr w.heap.size 3 v (ivs (lst x k))) ∧ Below w.heap.size w wr) (fun _ i _ => 8 - (intOf i).toNat)
  case atStart => exact ⟨0, Nat.zero_le _, rfl, ⟨some ⟨w.heap.size, 0, none⟩, 0, rfl, own_lit w w.heap.size 3 #[] (Nat.le_refl _) (by simp [maxLen])⟩, (Below.refl _ _).alloc (Nat.le_refl _) _⟩
  case round =>
    obtain ⟨k, hk, rfl, ⟨A1, c1, rfl, hown⟩, hbr⟩ := hrel
    have HS := Lib.hid (lst_succ x k)
    have hal := lst_len x k
    obtain ⟨acc, hacc⟩ : ∃ acc, acc = lst x k := ⟨_, rfl⟩
    rw [← hacc] at hown hal HS ⊢
    have HACC := Lib.hid hacc
    clear hacc
    obtain ⟨la, hla⟩ : ∃ la, la = acc.length := ⟨_, rfl⟩
    rw [← hla] at hown hal ⊢
    have HLA := Lib.hid hla
    clear hla
    by_cases hlt : k < 8
    · have d8 : (k : Int) < 8 := by omega
      cases hb : has x (k : Int) with
      | true =>
        have H1 := Lib.hid (HH.out (k : Int) wr)
        rw [hb] at H1 HS
        clear hb
        go_wp2_with fail
        refine H1.out.mono ?_
        rintro e w' ⟨rfl, rfl⟩
        go_wp2_with (first
          | (at_builtin
             refine wpList_app _ rfl (.tmp 13) (.tmp 15) _ rfl w.heap.size 3 i0 _ 8 Tryd.underlying23 hi hz0 hz1 hz2 rfl (.slice A1 la c1) (ivs acc) la rfl (by rw [ivs_length, HLA.out]) (hown.alloc _) (wr.heap.size + 1) (some ⟨wr.heap.size, 0, none⟩) 1 (ivs [(k : Int)]) 1 rfl rfl (sees_lit wr _ 3 (0, 0) _ rfl) (ivs_one _) (by simp [maxLen]; omega) (by omega) (by have := hbr.size; simp; omega) ?_
             intro A8 c8 w8 hown8 hb8 hg8 hat8)
          | fail)
        rw [← ivs_append] at hown8
        have hbr8 : Below w.heap.size w w8 := (hbr.alloc hbr.size _).trans hb8
        go_roundw
        case rel =>
          refine ⟨k + 1, by omega, by go_num, ⟨A8, c8, ?_, ?_⟩, hbr8⟩
          · rw [HS.out]; simp [HLA.out]
          · rw [HS.out]; simpa using hown8
        case measure => simp [intOf]; omega
      | false =>
        have H1 := Lib.hid (HH.out (k : Int) wr)
        rw [hb] at H1 HS
        clear hb
        go_wp2_with fail
        refine H1.out.mono ?_
        rintro e w' ⟨rfl, rfl⟩
        go_wp2_with fail
        go_roundw
        case rel =>
          refine ⟨k + 1, by omega, by go_num, ⟨A1, c1, ?_, ?_⟩, hbr⟩
          · rw [HS.out]; simp [HLA.out]
          · rw [HS.out]; simpa using hown
        case measure => simp [intOf]; omega
    · obtain rfl : k = 8 := by omega
      go_wp2_with fail
      go_ret
      rw [← HACC.out]
      exact ⟨A1, c1, (show Ending.returned (.slice A1 la c1) = _ from by rw [← HLA.out]), by rw [← HLA.out]; exact hown, hbr⟩

theorem mboth_any (x y : BitVec 32) (w : World) : Calls Tryd.prog 63 #[.int .u32 (x.toNat : Int), .int .u32 (y.toNat : Int)] w fun e w' => e = .returned (.int .u32 ((x &&& y).toNat : Int)) ∧ w = w' := by
  have h1 := BitM.u32_and x y
  generalize x &&& y = r at h1 ⊢
  go_enter Tryd.func63, Tryd.ntmps63
  go_wp2_with fail
  go_ret
  exact ⟨rfl, rfl⟩
theorem mrest_any (x : BitVec 32) (w : World) : Calls Tryd.prog 61 #[.int .u32 (x.toNat : Int)] w fun e w' => e = .returned (.int .u32 ((511#32 &&& ~~~x).toNat : Int)) ∧ w = w' := by
  have h1 := BitM.u32_andNot 511#32 x
  have h2 : ((511#32 : BitVec 32).toNat : Int) = 511 := rfl
  rw [h2] at h1
  generalize 511#32 &&& ~~~x = r at h1 ⊢
  clear h2
  go_enter Tryd.func61, Tryd.ntmps61
  go_wp2_with fail
  go_ret
  exact ⟨rfl, rfl⟩
end Go.Proofs.YtgdidamjgaegkaaDoor
