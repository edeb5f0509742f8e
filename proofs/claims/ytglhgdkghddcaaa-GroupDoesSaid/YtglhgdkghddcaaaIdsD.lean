/- ids.Both, Minus, Either, Drop, Put; the example of layer 7: what each returns. -/
import Derived.Test.YtglhgdkghddcaaaIdsC
namespace Go.Proofs.Ytglhgdkghddcaaa
set_option linter.unusedVariables false
open Go.RowKit IdsM

/-- What a call that returns a list of its own leaves. -/
def GivesInts (w : World) (l : List Int) (e : Ending) (w' : World) : Prop :=
  ∃ A' c', e = .returned (.slice A' l.length c') ∧ Own w' w.heap.size 3 (.slice A' l.length c') (ivs l) ∧ Below w.heap.size w w'
theorem GivesInts.sees {w w' : World} {l : List Int} {A' : Option Addr} {c' : Nat} (h : Own w' w.heap.size 3 (.slice A' l.length c') (ivs l)) : Sees w' w'.heap.size A' (ivs l) := h.sees

theorem minus_any (A : Option Addr) (n c : Nat) (a : List Int) (B : Option Addr) (m d : Nat) (b : List Int) (w : World) (hn : a.length = n) (hnc : n ≤ c) (hcm : c ≤ maxLen) (hs : Sees w w.heap.size A (ivs a))
    (hm : b.length = m) (hmd : m ≤ d) (hdm : d ≤ maxLen) (ht : Sees w w.heap.size B (ivs b)) (hsz : n ≤ 65536) (hsz' : m ≤ 65536) :
    Calls Try.prog 67 #[.slice A n c, .slice B m d] w (GivesInts w (mrg fMinus a b)) := by
  have HC := Lib.hid (along_minus A n c a B m d b w hn hnc hcm hs hm hmd hdm ht hsz hsz')
  clear hs ht hn hm hnc hmd hcm hdm
  go_enter Try.func67, Try.ntmps67
  go_wp2_with fail
  refine HC.out.mono ?_
  rintro e w' ⟨A', c', rfl, hown, hb⟩
  go_wp2
  go_ret
  exact ⟨A', c', rfl, hown, hb⟩
theorem either_any (A : Option Addr) (n c : Nat) (a : List Int) (B : Option Addr) (m d : Nat) (b : List Int) (w : World) (hn : a.length = n) (hnc : n ≤ c) (hcm : c ≤ maxLen) (hs : Sees w w.heap.size A (ivs a))
    (hm : b.length = m) (hmd : m ≤ d) (hdm : d ≤ maxLen) (ht : Sees w w.heap.size B (ivs b)) (hsz : n ≤ 65536) (hsz' : m ≤ 65536) :
    Calls Try.prog 65 #[.slice A n c, .slice B m d] w (GivesInts w (mrg fEither a b)) := by
  have HC := Lib.hid (along_either A n c a B m d b w hn hnc hcm hs hm hmd hdm ht hsz hsz')
  clear hs ht hn hm hnc hmd hcm hdm
  go_enter Try.func65, Try.ntmps65
  go_wp2_with fail
  refine HC.out.mono ?_
  rintro e w' ⟨A', c', rfl, hown, hb⟩
  go_wp2
  go_ret
  exact ⟨A', c', rfl, hown, hb⟩

theorem clone_any (A : Option Addr) (n c : Nat) (l : List Int) (w : World) (hn : l.length = n) (hs : Sees w w.heap.size A (ivs l)) (hsz : n ≤ 65536) :
    Calls Try.prog 62 #[.slice A n c] w (GivesInts w l) := by
  obtain ⟨i0, hi, hz0, hz1, hz2⟩ := info_parts int_info
  subst hn
  rcases A with _ | ad
  · have hl : l = [] := by
      rcases l with _ | ⟨x, l⟩
      · rfl
      · obtain ⟨b, o, h, _⟩ := hs (by simp [ivs])
        cases h
    subst hl
    have hq := fun wx => Lib.run_eql_slice_nil (P := Try.prog) wx 32 3 none 0 c 0 0 Try.underlying32
    go_enter Try.func62, Try.ntmps62
    go_wp2
    go_ret
    exact ⟨none, 0, rfl, Own.nil_ _ _ _, Below.refl _ _⟩
  · have hq := fun wx => Lib.run_eql_slice_nil (P := Try.prog) wx 32 3 (some ad) l.length c 0 0 Try.underlying32
    go_enter Try.func62, Try.ntmps62
    go_wp2_with (first
      | (at_builtin
         refine wpList_app _ rfl (.tmp 5) (.tmp 6) _ rfl w.heap.size 3 i0 _ 8 Try.underlying32 hi hz0 hz1 hz2 rfl (.slice (some ⟨w.heap.size, 0, none⟩) 0 0) [] 0 rfl rfl (own_lit w w.heap.size 3 #[] (Nat.le_refl _) (by simp [maxLen])) w.heap.size (some ad) c (ivs l) l.length rfl (ivs_length l) (hs.alloc (Nat.le_refl _) _) (ivs_one l) (by simp [maxLen]; omega) (by omega) (by simp) ?_
         intro A1 c1 w1 hown1 hb1 hg1 hat1; simp only [Nat.zero_add, List.nil_append] at hown1 hat1)
      | fail)
    go_ret
    exact ⟨A1, c1, rfl, hown1, ((Below.refl _ _).alloc (Nat.le_refl _) _).trans hb1⟩

theorem may_any (x : Int) (w : World) : Calls Try.prog 56 #[.int .i64 x] w fun e w' => e = .returned (.bool (decide (1 ≤ x ∧ x < 1073741824))) ∧ w = w' := by
  by_cases h1 : 1 ≤ x
  · by_cases h2 : x < 1073741824
    · go_enter Try.func56, Try.ntmps56
      go_wp2
      go_ret
      exact ⟨by simp [h1, h2], rfl⟩
    · have h2' : 1073741824 ≤ x := by omega
      go_enter Try.func56, Try.ntmps56
      go_wp2
      go_ret
      refine ⟨?_, rfl⟩
      simp
      try omega
  · have h1' : x < 1 := by omega
    go_enter Try.func56, Try.ntmps56
    go_wp2
    go_ret
    refine ⟨?_, rfl⟩
    simp
    try omega

/-- One number as a list, laid anew. -/
theorem sees_one (w : World) (x : Int) : Sees (w.alloc (.cells #[.int .i64 x] 3)) (w.heap.size + 1) (some ⟨w.heap.size, 0, none⟩) (ivs [x]) := sees_lit w _ _ (0, 0) _ rfl
theorem drop_any (A : Option Addr) (n c : Nat) (a : List Int) (id : Int) (w : World) (hn : a.length = n) (hnc : n ≤ c) (hcm : c ≤ maxLen) (hs : Sees w w.heap.size A (ivs a)) (hsz : n ≤ 65000) :
    Calls Try.prog 47 #[.slice A n c, .int .i64 id] w (GivesInts w (drop a id)) := by
  have HC := Lib.hid (minus_any A n c a (some ⟨w.heap.size, 0, none⟩) 1 1 [id] (w.alloc (.cells #[.int .i64 id] 3)) hn hnc hcm ((hs.alloc (Nat.le_refl _) _).more (by simp)) rfl (Nat.le_refl _) (by simp [maxLen]) (by simpa using sees_one w id) (by omega) (by omega))
  clear hn hnc hcm hs
  go_enter Try.func47, Try.ntmps47
  go_wp2_with fail
  refine HC.out.mono ?_
  rintro e w' ⟨A', c', rfl, hown, hb⟩
  go_wp2
  go_ret
  refine ⟨A', c', rfl, ?_, ((Below.refl _ _).alloc (Nat.le_refl _) _).trans (hb.mono (by simp))⟩
  exact hown.lower (by simp)
theorem put_any (A : Option Addr) (n c : Nat) (a : List Int) (id : Int) (w : World) (hn : a.length = n) (hnc : n ≤ c) (hcm : c ≤ maxLen) (hs : Sees w w.heap.size A (ivs a)) (hsz : n ≤ 65000) :
    Calls Try.prog 42 #[.slice A n c, .int .i64 id] w (GivesInts w (put a id)) := by
  by_cases hid : 1 ≤ id ∧ id < 1073741824
  · have HC := Lib.hid (either_any A n c a (some ⟨w.heap.size, 0, none⟩) 1 1 [id] (w.alloc (.cells #[.int .i64 id] 3)) hn hnc hcm ((hs.alloc (Nat.le_refl _) _).more (by simp)) rfl (Nat.le_refl _) (by simp [maxLen]) (by simpa using sees_one w id) (by omega) (by omega))
    have hd : decide (1 ≤ id ∧ id < 1073741824) = true := decide_eq_true hid
    have hput : put a id = mrg fEither a [id] := by unfold put; rw [if_pos hid]
    rw [hput]
    clear hn hnc hcm hs hid hput
    go_enter Try.func42, Try.ntmps42
    go_wp2_with fail
    refine (may_any _ _).mono ?_
    rintro e w' ⟨rfl, rfl⟩
    rw [hd]
    go_wp2_with fail
    refine HC.out.mono ?_
    rintro e w' ⟨A', c', rfl, hown, hb⟩
    go_wp2
    go_ret
    refine ⟨A', c', rfl, hown.lower (by simp), ((Below.refl _ _).alloc (Nat.le_refl _) _).trans (hb.mono (by simp))⟩
  · have HC := Lib.hid (clone_any A n c a w hn hs (by omega))
    have hd : decide (1 ≤ id ∧ id < 1073741824) = false := decide_eq_false hid
    have hput : put a id = a := by unfold put; rw [if_neg hid]
    rw [hput]
    clear hn hnc hcm hs hid hput
    go_enter Try.func42, Try.ntmps42
    go_wp2_with fail
    refine (may_any _ _).mono ?_
    rintro e w' ⟨rfl, rfl⟩
    rw [hd]
    go_wp2_with fail
    refine HC.out.mono ?_
    rintro e w' ⟨A', c', rfl, hown, hb⟩
    go_wp2
    go_ret
    exact ⟨A', c', rfl, hown, hb⟩

theorem awake7_list : mrg fMinus [1, 3, 5] [3, 4] = [1, 5] := by
  simp [mrg, fMinus]
end Go.Proofs.Ytglhgdkghddcaaa
