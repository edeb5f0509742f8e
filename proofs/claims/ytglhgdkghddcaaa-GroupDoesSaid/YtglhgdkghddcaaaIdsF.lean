/- The document's own Put and Either of lists that rise: what each returns. -/
import Derived.Test.YtglhgdkghddcaaaIdsE
namespace Go.Proofs.Ytglhgdkghddcaaa
set_option linter.unusedVariables false
open Go.RowKit IdsM

theorem refPut_out {l : List Int} {id : Int} (h : id < 1 ∨ 1073741824 ≤ id ∨ id ∈ l) : refPut l id = l := by unfold refPut; rw [if_pos h]
theorem refPut_in {l : List Int} {id : Int} (h : ¬ (id < 1 ∨ 1073741824 ≤ id ∨ id ∈ l)) : refPut l id = l.take (l.countP (· < id)) ++ ([id] ++ l.drop (l.countP (· < id))) := by unfold refPut; rw [if_neg h]

set_option maxHeartbeats 1600000 in
theorem ref_put (A : Option Addr) (n c : Nat) (l : List Int) (id : Int) (w : World) (hn : l.length = n) (hnc : n ≤ c) (hcm : c ≤ maxLen) (hs : Sees w w.heap.size A (ivs l)) (hsz : n ≤ 65536) :
    Calls Try.prog 45 #[.slice A n c, .int .i64 id] w (GivesInts w (refPut l id)) := by
  obtain ⟨i0, hi, hz0, hz1, hz2⟩ := info_parts int_info
  unfold maxLen at hcm
  have HN := Lib.hid hn
  by_cases h1 : id < 1
  · rw [refPut_out (Or.inl h1)]
    subst hn
    go_enter Try.func45, Try.ntmps45
    go_wp2_with (first
      | (at_builtin
         refine wpList_app _ rfl (.tmp 18) (.tmp 19) _ rfl w.heap.size 3 i0 _ 8 Try.underlying32 hi hz0 hz1 hz2 rfl (.slice (some ⟨w.heap.size, 0, none⟩) 0 0) [] 0 rfl rfl (own_lit w w.heap.size 3 #[] (Nat.le_refl _) (by simp [maxLen])) w.heap.size A c (ivs l) l.length rfl (ivs_length l) (hs.alloc (Nat.le_refl _) _) (ivs_one l) (by simp [maxLen]; omega) (by omega) (by simp) ?_
         intro A1 c1 w1 hown1 hb1 hg1 hat1; simp only [Nat.zero_add, List.nil_append] at hown1 hat1)
      | fail)
    go_ret
    exact ⟨A1, c1, rfl, hown1, ((Below.refl _ _).alloc (Nat.le_refl _) _).trans hb1⟩
  · by_cases h2 : 1073741824 ≤ id
    · rw [refPut_out (Or.inr (Or.inl h2))]
      subst hn
      go_enter Try.func45, Try.ntmps45
      go_wp2_with (first
        | (at_builtin
           refine wpList_app _ rfl (.tmp 18) (.tmp 19) _ rfl w.heap.size 3 i0 _ 8 Try.underlying32 hi hz0 hz1 hz2 rfl (.slice (some ⟨w.heap.size, 0, none⟩) 0 0) [] 0 rfl rfl (own_lit w w.heap.size 3 #[] (Nat.le_refl _) (by simp [maxLen])) w.heap.size A c (ivs l) l.length rfl (ivs_length l) (hs.alloc (Nat.le_refl _) _) (ivs_one l) (by simp [maxLen]; omega) (by omega) (by simp) ?_
           intro A1 c1 w1 hown1 hb1 hg1 hat1; simp only [Nat.zero_add, List.nil_append] at hown1 hat1)
        | fail)
      go_ret
      exact ⟨A1, c1, rfl, hown1, ((Below.refl _ _).alloc (Nat.le_refl _) _).trans hb1⟩
    · by_cases h3 : id ∈ l
      · rw [refPut_out (Or.inr (Or.inr h3))]
        have HD := Lib.hid (show decide (id ∈ l) = true from decide_eq_true h3)
        clear h3
        subst hn
        go_enter Try.func45, Try.ntmps45
        go_wp2_with fail
        refine (ref_has _ _ _ l id _ _ rfl hs (by omega)).mono ?_
        rintro e wx ⟨rfl, rfl⟩
        rw [HD.out]
        go_wp2_with (first
          | (at_builtin
             refine wpList_app _ rfl (.tmp 18) (.tmp 19) _ rfl w.heap.size 3 i0 _ 8 Try.underlying32 hi hz0 hz1 hz2 rfl (.slice (some ⟨w.heap.size, 0, none⟩) 0 0) [] 0 rfl rfl (own_lit w w.heap.size 3 #[] (Nat.le_refl _) (by simp [maxLen])) w.heap.size A c (ivs l) l.length rfl (ivs_length l) (hs.alloc (Nat.le_refl _) _) (ivs_one l) (by simp [maxLen]; omega) (by omega) (by simp) ?_
             intro A1 c1 w1 hown1 hb1 hg1 hat1; simp only [Nat.zero_add, List.nil_append] at hown1 hat1)
          | fail)
        go_ret
        exact ⟨A1, c1, rfl, hown1, ((Below.refl _ _).alloc (Nat.le_refl _) _).trans hb1⟩
      · have HR := Lib.hid (refPut_in (l := l) (id := id) (by rintro (h | h | h) <;> contradiction))
        have HD := Lib.hid (show decide (id ∈ l) = false from decide_eq_false h3)
        have hp : l.countP (· < id) ≤ l.length := List.countP_le_length
        obtain ⟨p, hpp⟩ : ∃ p, p = l.countP (· < id) := ⟨_, rfl⟩
        rw [← hpp] at hp
        have HPP := Lib.hid hpp
        clear h3 hpp
        have hpn : p ≤ n := by omega
        have hpc : (p : Int) ≤ (c : Int) := by omega
        obtain ⟨q, hq⟩ : ∃ q, n = q + p := ⟨n - p, by omega⟩
        obtain ⟨A2, hcut, hs2⟩ := cut_fact (P := Try.prog) 32 3 i0 Try.underlying32 hi hz1 hs n q p c (p : Int) .i64 (by rw [ivs_length]; exact hn) hq rfl hnc
        have HQ := Lib.hid hq
        have hqn : q ≤ n := by omega
        clear hq hn
        have htl : (ivs (l.take p)).length = p := by rw [ivs_length, List.length_take]; have := HN.out; omega
        have hdl : (ivs (l.drop p)).length = q := by rw [ivs_length, List.length_drop]; have := HN.out; have := HQ.out; omega
        have HTL := Lib.hid htl
        have HDL := Lib.hid hdl
        have hst : Sees w w.heap.size A (ivs (l.take p)) := by
          have := hs.take p
          rwa [show (ivs l).take p = ivs (l.take p) from by simp [ivs, List.map_take]] at this
        have hsd : Sees w w.heap.size A2 (ivs (l.drop p)) := by
          rwa [show (ivs l).drop p = ivs (l.drop p) from by simp [ivs, List.map_drop]] at hs2
        clear htl hdl hs2
        go_enter Try.func45, Try.ntmps45
        go_wp2_with fail
        refine (ref_has _ _ _ l id _ _ HN.out hs (by omega)).mono ?_
        rintro e wx ⟨rfl, rfl⟩
        rw [HD.out]
        go_wp2_with fail
        refine (ref_place _ _ _ l id _ _ HN.out hs (by omega)).mono ?_
        rintro e wx ⟨rfl, rfl⟩
        rw [← HPP.out]
        go_wp2_with (first
          | (at_builtin
             refine wpList_app _ rfl (.tmp 24) (.tmp 27) _ rfl w.heap.size 3 i0 _ 8 Try.underlying32 hi hz0 hz1 hz2 rfl (.slice (some ⟨w.heap.size, 0, none⟩) 0 0) [] 0 rfl rfl (own_lit w w.heap.size 3 #[] (Nat.le_refl _) (by simp [maxLen])) w.heap.size A c (ivs (l.take p)) p rfl HTL.out (hst.alloc (Nat.le_refl _) _) (ivs_one _) (by simp [maxLen]; omega) (by omega) (by simp) ?_
             intro A1 c1 w1 hown1 hb1 hg1 hat1; simp only [Nat.zero_add, List.nil_append] at hown1 hat1)
          | (at_builtin
             refine wpList_app _ rfl (.tmp 29) (.tmp 31) _ rfl w.heap.size 3 i0 _ 8 Try.underlying32 hi hz0 hz1 hz2 rfl (.slice A1 p c1) (ivs (l.take p)) p rfl HTL.out (hown1.alloc _) (w1.heap.size + 1) (some ⟨w1.heap.size, 0, none⟩) 1 (ivs [id]) 1 rfl rfl (sees_lit w1 _ 3 (0, 0) _ rfl) (ivs_one _) (by simp [maxLen]; omega) (by omega) (by have := hb1.size; simp at this ⊢; omega) ?_
             intro A3 c3 w3 hown3 hb3 hg3 hat3)
          | (at_builtin
             refine wpList_app _ rfl (.tmp 33) (.tmp 36) _ rfl w.heap.size 3 i0 _ 8 Try.underlying32 hi hz0 hz1 hz2 rfl (.slice A3 (p + 1) c3) (ivs (l.take p) ++ ivs [id]) (p + 1) rfl (by rw [List.length_append, HTL.out]; rfl) hown3 w.heap.size A2 (c - p) (ivs (l.drop p)) q rfl HDL.out (hsd.below ((((Below.refl _ _).alloc (Nat.le_refl _) _).trans hb1).alloc (by have := hb1.size; simp at this; omega) _ |>.trans hb3)) (ivs_one _) (by simp [maxLen]; omega) (by omega) (by have := hb1.size; have := hb3.size; simp at *; omega) ?_
             intro A4 c4 w4 hown4 hb4 hg4 hat4)
          | fail)
        go_ret
        rw [← ivs_append, ← ivs_append, List.append_assoc] at hown4
        have hlen : (refPut l id).length = p + 1 + q := by
          rw [HR.out, ← HPP.out]
          have h1 := HTL.out
          have h2 := HDL.out
          rw [ivs_length] at h1 h2
          rw [List.length_append, List.length_append, h1, h2]; simp; omega
        refine ⟨A4, c4, by rw [hlen]; rfl, by rw [hlen, HR.out, ← HPP.out]; exact hown4, ?_⟩
        exact ((((Below.refl _ _).alloc (Nat.le_refl _) _).trans hb1).alloc (by have := hb1.size; simp at this; omega) _ |>.trans hb3).trans hb4

theorem foldl_take (l : List Int) (a : List Int) (k : Nat) (h : k < l.length) : (l.take (k + 1)).foldl refPut a = refPut ((l.take k).foldl refPut a) l[k] := by
  rw [List.take_succ_eq_append_getElem h, List.foldl_append]; rfl
end Go.Proofs.Ytglhgdkghddcaaa
