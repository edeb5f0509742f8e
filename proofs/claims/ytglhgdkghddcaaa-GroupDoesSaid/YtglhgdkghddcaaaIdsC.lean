/- ids.along at the three functions that it is handed: what each returns. -/
import Derived.Test.YtglhgdkghddcaaaIdsB
namespace Go.Proofs.Ytglhgdkghddcaaa
set_option linter.unusedVariables false
open Go.RowKit IdsM

def sliceLen : Value → Nat | .slice _ n _ => n | _ => 0
theorem keep_minus (x y : Bool) (w : World) : Calls Try.prog 75 #[.bool x, .bool y] w fun e w' => e = .returned (.bool (fMinus x y)) ∧ w = w' := by
  cases x <;> cases y <;> (go_enter Try.func75, Try.ntmps75; go_wp2; go_ret; exact ⟨rfl, rfl⟩)
theorem keep_either (x y : Bool) (w : World) : Calls Try.prog 74 #[.bool x, .bool y] w fun e w' => e = .returned (.bool (fEither x y)) ∧ w = w' := by
  cases x <;> cases y <;> (go_enter Try.func74, Try.ntmps74; go_wp2; go_ret; exact ⟨rfl, rfl⟩)

/-- What holds at the head of each round: the two lists that are left, what was kept. -/
def Along (f : Bool → Bool → Bool) (a b : List Int) (w : World) (v0 v1 v7 : Value) (wr : World) (a' b' acc : List Int) : Prop :=
  (∃ A1 c1, v0 = .slice A1 a'.length c1 ∧ a'.length ≤ c1 ∧ c1 ≤ maxLen ∧ Sees wr w.heap.size A1 (ivs a')) ∧
  (∃ B1 c2, v1 = .slice B1 b'.length c2 ∧ b'.length ≤ c2 ∧ c2 ≤ maxLen ∧ Sees wr w.heap.size B1 (ivs b')) ∧
  Own wr w.heap.size 3 v7 (ivs acc) ∧ Below w.heap.size w wr ∧ acc ++ mrg f a' b' = mrg f a b ∧ a'.length ≤ a.length ∧ b'.length ≤ b.length

set_option maxHeartbeats 4000000 in
theorem along_minus (A : Option Addr) (n c : Nat) (a : List Int) (B : Option Addr) (m d : Nat) (b : List Int) (w : World) (hn : a.length = n) (hnc : n ≤ c) (hcm : c ≤ maxLen) (hs : Sees w w.heap.size A (ivs a))
    (hm : b.length = m) (hmd : m ≤ d) (hdm : d ≤ maxLen) (ht : Sees w w.heap.size B (ivs b)) (hsz : n ≤ 65536) (hsz' : m ≤ 65536) :
    Calls Try.prog 73 #[.slice A n c, .slice B m d, .func (.func 75) #[] #[]] w fun e w' =>
      ∃ A' c', e = .returned (.slice A' (mrg fMinus a b).length c') ∧ Own w' w.heap.size 3 (.slice A' (mrg fMinus a b).length c') (ivs (mrg fMinus a b)) ∧ Below w.heap.size w w' := by
  obtain ⟨i0, hi, hz0, hz1, hz2⟩ := info_parts int_info
  subst hn
  subst hm
  go_enter Try.func73, Try.ntmps73
  go_wp2
  go_loopw [0, 1, 7, 8, 9, 10] (fun v0 v1 v7 _ _ _ wr => ∃ a' b' acc, Along fMinus a b w v0 v1 v7 wr a' b' acc) (fun v0 v1 _ _ _ _ _ => sliceLen v0 + sliceLen v1)
  case atStart => exact ⟨a, b, [], ⟨A, c, rfl, hnc, hcm, hs⟩, ⟨B, d, rfl, hmd, hdm, ht⟩, Own.nil_ _ _ _, Below.refl _ _, rfl, Nat.le_refl _, Nat.le_refl _⟩
  case round =>
    obtain ⟨a', b', acc, ⟨A1, c1, rfl, hac, hacm, hsa⟩, ⟨B1, c2, rfl, hbc, hbcm, hsb⟩, hown, hbr, heq, hla, hlb⟩ := hrel
    have hacc : acc.length ≤ a.length + b.length := by
      have h1 := len_mrg_le fMinus a b
      rw [← heq, List.length_append] at h1; omega
    have HM := Lib.hid hacm
    have HM' := Lib.hid hbcm
    unfold maxLen at hacm hbcm
    obtain ⟨A7, c7, rfl⟩ := hown.form
    have HEQ := Lib.hid heq
    clear heq
    simp only [ivs_length] at hown ⊢
    obtain ⟨la, hlen⟩ : ∃ n, n = acc.length := ⟨_, rfl⟩
    rw [← hlen] at hown hacc ⊢
    have HLEN := Lib.hid hlen
    clear hlen
    rcases a' with _ | ⟨x, a'⟩
    · rcases b' with _ | ⟨y, b'⟩
      · go_wp2
        go_ret
        have he := HEQ.out
        rw [mrg, List.append_nil] at he
        rw [← he, ← HLEN.out]
        exact ⟨A7, c7, rfl, hown, hbr⟩
      · simp only [List.length_nil] at hac hla ⊢
        obtain ⟨bb, ob, eB, hbb, hcb⟩ := hsb.int 0 (by simp)
        subst eB
        simp only [List.getElem_cons_zero, Nat.add_zero] at hcb
        have hleb : b'.length + 1 ≤ 65536 := by simp at hlb; omega
        simp only [List.length_cons] at hbc hlb ⊢
        have zb : ((b'.length : Int) + 1 == 0) = false := by rw [beq_eq_false_iff_ne]; omega
        have pb : decide ((0 : Int) < (b'.length : Int) + 1) = true := decide_eq_true (by omega)
        obtain ⟨B2, hcutB, hsb2⟩ := cut_fact (P := Try.prog) 32 3 i0 Try.underlying32 hi hz1 hsb (b'.length + 1) b'.length 1 c2 1 .i64 (by rw [ivs_length]; rfl) rfl rfl hbc
        have hk : fMinus false true = false := rfl
        go_wp2
        go_quiet (fail)
        go_wp2
        go_quiet (fail)
        go_wp2
        go_quiet (fail)
        go_wp2_with fail
        refine (keep_minus false true _).mono ?_
        rintro e wk ⟨rfl, rfl⟩
        rw [hk]
        go_wp2
        go_roundw
        case rel =>
          have he := HEQ.out
          refine ⟨[], b', acc, ⟨_, c1, rfl, hac, HM.out, hsa.drewN _⟩, ⟨B2, c2 - 1, rfl, by omega, by have := HM'.out; omega, hsb2.drewN _⟩, ?_, below_drewN hbr _, ?_, by first | omega | (simp; omega), by first | omega | (simp; omega)⟩
          · exact hown
          · rw [mrg] at he; simpa [hk] using he
        case measure => first | (simp [sliceLen]; done) | (simp [sliceLen]; omega)
    · rcases b' with _ | ⟨y, b'⟩
      · obtain ⟨ba, oa, eA, hba, hca⟩ := hsa.int 0 (by simp)
        subst eA
        simp only [List.getElem_cons_zero, Nat.add_zero] at hca
        have hlea : a'.length + 1 ≤ 65536 := by simp at hla; omega
        simp only [List.length_cons] at hac hla ⊢
        have za : ((a'.length : Int) + 1 == 0) = false := by rw [beq_eq_false_iff_ne]; omega
        have pa : decide ((0 : Int) < (a'.length : Int) + 1) = true := decide_eq_true (by omega)
        simp only [List.length_nil] at hbc hlb ⊢
        obtain ⟨A2, hcutA, hsa2⟩ := cut_fact (P := Try.prog) 32 3 i0 Try.underlying32 hi hz1 hsa (a'.length + 1) a'.length 1 c1 1 .i64 (by rw [ivs_length]; rfl) rfl rfl hac
        have hk : fMinus true false = true := rfl
        go_wp2
        go_quiet (fail)
        go_wp2
        go_quiet (fail)
        go_wp2
        go_quiet (fail)
        go_wp2_with fail
        refine (keep_minus true false _).mono ?_
        rintro e wk ⟨rfl, rfl⟩
        rw [hk]
        go_wp2_with (first
          | (at_builtin
             refine wpList_app _ rfl (.tmp 69) (.tmp 71) _ rfl w.heap.size 3 i0 _ 8 Try.underlying32 hi hz0 hz1 hz2 rfl (.slice A7 la c7) (ivs acc) la rfl (by rw [ivs_length, HLEN.out]) (Own.drewN hown _ |>.alloc _) (wr.heap.size + 1) (some ⟨wr.heap.size, 0, none⟩) 1 (ivs [x]) 1 rfl rfl (sees_lit (wr.drewN _) _ 3 (0, 0) _ rfl) (ivs_one _) (by simp [maxLen]; omega) (by omega) (by have := hbr.size; simp; omega) ?_
             intro A8 c8 w8 hown8 hb8 hg8 hat8)
          | fail)
        have hbr8 : Below w.heap.size w w8 := ((below_drewN hbr _).alloc (by have := hbr.size; simp; omega) _).trans hb8
        have hbx8 : Below w.heap.size wr w8 := ((below_drewN (Below.refl _ _) _).alloc (by have := hbr.size; simp; omega) _).trans hb8
        have hlen8 : (ivs acc ++ ivs [x]).length = la + 1 := by rw [List.length_append, ivs_length, ivs_length, HLEN.out]; rfl
        go_roundw
        case rel =>
          have he := HEQ.out
          refine ⟨a', [], acc ++ [x], ⟨A2, c1 - 1, rfl, by omega, by have := HM.out; omega, (hsa2.below hbx8)⟩, ⟨_, c2, rfl, hbc, HM'.out, (hsb.below hbx8)⟩, ?_, hbr8, ?_, by first | omega | (simp; omega), by first | omega | (simp; omega)⟩
          · rw [← ivs_append] at hown8; exact hown8
          · rw [mrg] at he; simpa [hk] using he
        case measure => first | (simp [sliceLen]; done) | (simp [sliceLen]; omega)
      · rcases Int.lt_trichotomy x y with hxy | hxy | hxy
        · obtain ⟨ba, oa, eA, hba, hca⟩ := hsa.int 0 (by simp)
          subst eA
          simp only [List.getElem_cons_zero, Nat.add_zero] at hca
          have hlea : a'.length + 1 ≤ 65536 := by simp at hla; omega
          simp only [List.length_cons] at hac hla ⊢
          have za : ((a'.length : Int) + 1 == 0) = false := by rw [beq_eq_false_iff_ne]; omega
          have pa : decide ((0 : Int) < (a'.length : Int) + 1) = true := decide_eq_true (by omega)
          obtain ⟨bb, ob, eB, hbb, hcb⟩ := hsb.int 0 (by simp)
          subst eB
          simp only [List.getElem_cons_zero, Nat.add_zero] at hcb
          have hleb : b'.length + 1 ≤ 65536 := by simp at hlb; omega
          simp only [List.length_cons] at hbc hlb ⊢
          have zb : ((b'.length : Int) + 1 == 0) = false := by rw [beq_eq_false_iff_ne]; omega
          have pb : decide ((0 : Int) < (b'.length : Int) + 1) = true := decide_eq_true (by omega)
          have d1 : decide (x ≤ y) = true := by simp; omega
          have d2 : decide (y ≤ x) = false := by simp; omega
          obtain ⟨A2, hcutA, hsa2⟩ := cut_fact (P := Try.prog) 32 3 i0 Try.underlying32 hi hz1 hsa (a'.length + 1) a'.length 1 c1 1 .i64 (by rw [ivs_length]; rfl) rfl rfl hac
          have hk : fMinus true false = true := rfl
          go_wp2
          go_quiet (fail)
          go_wp2
          go_quiet (fail)
          go_wp2
          go_quiet (fail)
          go_wp2_with fail
          refine (keep_minus true false _).mono ?_
          rintro e wk ⟨rfl, rfl⟩
          rw [hk]
          go_wp2_with (first
            | (at_builtin
               refine wpList_app _ rfl (.tmp 69) (.tmp 71) _ rfl w.heap.size 3 i0 _ 8 Try.underlying32 hi hz0 hz1 hz2 rfl (.slice A7 la c7) (ivs acc) la rfl (by rw [ivs_length, HLEN.out]) (Own.drewN hown _ |>.alloc _) (wr.heap.size + 1) (some ⟨wr.heap.size, 0, none⟩) 1 (ivs [x]) 1 rfl rfl (sees_lit (wr.drewN _) _ 3 (0, 0) _ rfl) (ivs_one _) (by simp [maxLen]; omega) (by omega) (by have := hbr.size; simp; omega) ?_
               intro A8 c8 w8 hown8 hb8 hg8 hat8)
            | fail)
          have hbr8 : Below w.heap.size w w8 := ((below_drewN hbr _).alloc (by have := hbr.size; simp; omega) _).trans hb8
          have hbx8 : Below w.heap.size wr w8 := ((below_drewN (Below.refl _ _) _).alloc (by have := hbr.size; simp; omega) _).trans hb8
          have hlen8 : (ivs acc ++ ivs [x]).length = la + 1 := by rw [List.length_append, ivs_length, ivs_length, HLEN.out]; rfl
          go_roundw
          case rel =>
            have he := HEQ.out
            refine ⟨a', (y :: b'), acc ++ [x], ⟨A2, c1 - 1, rfl, by omega, by have := HM.out; omega, (hsa2.below hbx8)⟩, ⟨_, c2, rfl, hbc, HM'.out, (hsb.below hbx8)⟩, ?_, hbr8, ?_, by first | omega | (simp; omega), by first | omega | (simp; omega)⟩
            · rw [← ivs_append] at hown8; exact hown8
            · rw [mrg, if_pos (by simpa using hxy)] at he; simpa [hk] using he
          case measure => first | (simp [sliceLen]; done) | (simp [sliceLen]; omega)
        · obtain ⟨ba, oa, eA, hba, hca⟩ := hsa.int 0 (by simp)
          subst eA
          simp only [List.getElem_cons_zero, Nat.add_zero] at hca
          have hlea : a'.length + 1 ≤ 65536 := by simp at hla; omega
          simp only [List.length_cons] at hac hla ⊢
          have za : ((a'.length : Int) + 1 == 0) = false := by rw [beq_eq_false_iff_ne]; omega
          have pa : decide ((0 : Int) < (a'.length : Int) + 1) = true := decide_eq_true (by omega)
          obtain ⟨bb, ob, eB, hbb, hcb⟩ := hsb.int 0 (by simp)
          subst eB
          simp only [List.getElem_cons_zero, Nat.add_zero] at hcb
          have hleb : b'.length + 1 ≤ 65536 := by simp at hlb; omega
          simp only [List.length_cons] at hbc hlb ⊢
          have zb : ((b'.length : Int) + 1 == 0) = false := by rw [beq_eq_false_iff_ne]; omega
          have pb : decide ((0 : Int) < (b'.length : Int) + 1) = true := decide_eq_true (by omega)
          have d1 : decide (x ≤ y) = true := by simp; omega
          have d2 : decide (y ≤ x) = true := by simp; omega
          have HXY := Lib.hid hxy
          clear hxy
          obtain ⟨A2, hcutA, hsa2⟩ := cut_fact (P := Try.prog) 32 3 i0 Try.underlying32 hi hz1 hsa (a'.length + 1) a'.length 1 c1 1 .i64 (by rw [ivs_length]; rfl) rfl rfl hac
          obtain ⟨B2, hcutB, hsb2⟩ := cut_fact (P := Try.prog) 32 3 i0 Try.underlying32 hi hz1 hsb (b'.length + 1) b'.length 1 c2 1 .i64 (by rw [ivs_length]; rfl) rfl rfl hbc
          have hk : fMinus true true = false := rfl
          go_wp2
          go_quiet (fail)
          go_wp2
          go_quiet (fail)
          go_wp2
          go_quiet (fail)
          go_wp2
          go_quiet (fail)
          go_wp2_with fail
          refine (keep_minus true true _).mono ?_
          rintro e wk ⟨rfl, rfl⟩
          rw [hk]
          go_wp2
          go_roundw
          case rel =>
            have he := HEQ.out
            refine ⟨a', b', acc, ⟨A2, c1 - 1, rfl, by omega, by have := HM.out; omega, hsa2.drewN _⟩, ⟨B2, c2 - 1, rfl, by omega, by have := HM'.out; omega, hsb2.drewN _⟩, ?_, below_drewN hbr _, ?_, by first | omega | (simp; omega), by first | omega | (simp; omega)⟩
            · exact hown
            · rw [mrg, if_neg (by have := HXY.out; omega), if_neg (by have := HXY.out; omega)] at he; simpa [hk] using he
          case measure => first | (simp [sliceLen]; done) | (simp [sliceLen]; omega)
        · obtain ⟨ba, oa, eA, hba, hca⟩ := hsa.int 0 (by simp)
          subst eA
          simp only [List.getElem_cons_zero, Nat.add_zero] at hca
          have hlea : a'.length + 1 ≤ 65536 := by simp at hla; omega
          simp only [List.length_cons] at hac hla ⊢
          have za : ((a'.length : Int) + 1 == 0) = false := by rw [beq_eq_false_iff_ne]; omega
          have pa : decide ((0 : Int) < (a'.length : Int) + 1) = true := decide_eq_true (by omega)
          obtain ⟨bb, ob, eB, hbb, hcb⟩ := hsb.int 0 (by simp)
          subst eB
          simp only [List.getElem_cons_zero, Nat.add_zero] at hcb
          have hleb : b'.length + 1 ≤ 65536 := by simp at hlb; omega
          simp only [List.length_cons] at hbc hlb ⊢
          have zb : ((b'.length : Int) + 1 == 0) = false := by rw [beq_eq_false_iff_ne]; omega
          have pb : decide ((0 : Int) < (b'.length : Int) + 1) = true := decide_eq_true (by omega)
          have d1 : decide (x ≤ y) = false := by simp; omega
          have d2 : decide (y ≤ x) = true := by simp; omega
          obtain ⟨B2, hcutB, hsb2⟩ := cut_fact (P := Try.prog) 32 3 i0 Try.underlying32 hi hz1 hsb (b'.length + 1) b'.length 1 c2 1 .i64 (by rw [ivs_length]; rfl) rfl rfl hbc
          have hk : fMinus false true = false := rfl
          go_wp2
          go_quiet (fail)
          go_wp2
          go_quiet (fail)
          go_wp2
          go_quiet (fail)
          go_wp2_with fail
          refine (keep_minus false true _).mono ?_
          rintro e wk ⟨rfl, rfl⟩
          rw [hk]
          go_wp2
          go_roundw
          case rel =>
            have he := HEQ.out
            refine ⟨(x :: a'), b', acc, ⟨_, c1, rfl, hac, HM.out, hsa.drewN _⟩, ⟨B2, c2 - 1, rfl, by omega, by have := HM'.out; omega, hsb2.drewN _⟩, ?_, below_drewN hbr _, ?_, by first | omega | (simp; omega), by first | omega | (simp; omega)⟩
            · exact hown
            · rw [mrg, if_neg (by omega), if_pos (by omega)] at he; simpa [hk] using he
          case measure => first | (simp [sliceLen]; done) | (simp [sliceLen]; omega)

set_option maxHeartbeats 4000000 in
theorem along_either (A : Option Addr) (n c : Nat) (a : List Int) (B : Option Addr) (m d : Nat) (b : List Int) (w : World) (hn : a.length = n) (hnc : n ≤ c) (hcm : c ≤ maxLen) (hs : Sees w w.heap.size A (ivs a))
    (hm : b.length = m) (hmd : m ≤ d) (hdm : d ≤ maxLen) (ht : Sees w w.heap.size B (ivs b)) (hsz : n ≤ 65536) (hsz' : m ≤ 65536) :
    Calls Try.prog 73 #[.slice A n c, .slice B m d, .func (.func 74) #[] #[]] w fun e w' =>
      ∃ A' c', e = .returned (.slice A' (mrg fEither a b).length c') ∧ Own w' w.heap.size 3 (.slice A' (mrg fEither a b).length c') (ivs (mrg fEither a b)) ∧ Below w.heap.size w w' := by
  obtain ⟨i0, hi, hz0, hz1, hz2⟩ := info_parts int_info
  subst hn
  subst hm
  go_enter Try.func73, Try.ntmps73
  go_wp2
  go_loopw [0, 1, 7, 8, 9, 10] (fun v0 v1 v7 _ _ _ wr => ∃ a' b' acc, Along fEither a b w v0 v1 v7 wr a' b' acc) (fun v0 v1 _ _ _ _ _ => sliceLen v0 + sliceLen v1)
  case atStart => exact ⟨a, b, [], ⟨A, c, rfl, hnc, hcm, hs⟩, ⟨B, d, rfl, hmd, hdm, ht⟩, Own.nil_ _ _ _, Below.refl _ _, rfl, Nat.le_refl _, Nat.le_refl _⟩
  case round =>
    obtain ⟨a', b', acc, ⟨A1, c1, rfl, hac, hacm, hsa⟩, ⟨B1, c2, rfl, hbc, hbcm, hsb⟩, hown, hbr, heq, hla, hlb⟩ := hrel
    have hacc : acc.length ≤ a.length + b.length := by
      have h1 := len_mrg_le fEither a b
      rw [← heq, List.length_append] at h1; omega
    have HM := Lib.hid hacm
    have HM' := Lib.hid hbcm
    unfold maxLen at hacm hbcm
    obtain ⟨A7, c7, rfl⟩ := hown.form
    have HEQ := Lib.hid heq
    clear heq
    simp only [ivs_length] at hown ⊢
    obtain ⟨la, hlen⟩ : ∃ n, n = acc.length := ⟨_, rfl⟩
    rw [← hlen] at hown hacc ⊢
    have HLEN := Lib.hid hlen
    clear hlen
    rcases a' with _ | ⟨x, a'⟩
    · rcases b' with _ | ⟨y, b'⟩
      · go_wp2
        go_ret
        have he := HEQ.out
        rw [mrg, List.append_nil] at he
        rw [← he, ← HLEN.out]
        exact ⟨A7, c7, rfl, hown, hbr⟩
      · simp only [List.length_nil] at hac hla ⊢
        obtain ⟨bb, ob, eB, hbb, hcb⟩ := hsb.int 0 (by simp)
        subst eB
        simp only [List.getElem_cons_zero, Nat.add_zero] at hcb
        have hleb : b'.length + 1 ≤ 65536 := by simp at hlb; omega
        simp only [List.length_cons] at hbc hlb ⊢
        have zb : ((b'.length : Int) + 1 == 0) = false := by rw [beq_eq_false_iff_ne]; omega
        have pb : decide ((0 : Int) < (b'.length : Int) + 1) = true := decide_eq_true (by omega)
        obtain ⟨B2, hcutB, hsb2⟩ := cut_fact (P := Try.prog) 32 3 i0 Try.underlying32 hi hz1 hsb (b'.length + 1) b'.length 1 c2 1 .i64 (by rw [ivs_length]; rfl) rfl rfl hbc
        have hk : fEither false true = true := rfl
        go_wp2
        go_quiet (fail)
        go_wp2
        go_quiet (fail)
        go_wp2
        go_quiet (fail)
        go_wp2_with fail
        refine (keep_either false true _).mono ?_
        rintro e wk ⟨rfl, rfl⟩
        rw [hk]
        go_wp2_with (first
          | (at_builtin
             refine wpList_app _ rfl (.tmp 69) (.tmp 71) _ rfl w.heap.size 3 i0 _ 8 Try.underlying32 hi hz0 hz1 hz2 rfl (.slice A7 la c7) (ivs acc) la rfl (by rw [ivs_length, HLEN.out]) (Own.drewN hown _ |>.alloc _) (wr.heap.size + 1) (some ⟨wr.heap.size, 0, none⟩) 1 (ivs [y]) 1 rfl rfl (sees_lit (wr.drewN _) _ 3 (0, 0) _ rfl) (ivs_one _) (by simp [maxLen]; omega) (by omega) (by have := hbr.size; simp; omega) ?_
             intro A8 c8 w8 hown8 hb8 hg8 hat8)
          | fail)
        have hbr8 : Below w.heap.size w w8 := ((below_drewN hbr _).alloc (by have := hbr.size; simp; omega) _).trans hb8
        have hbx8 : Below w.heap.size wr w8 := ((below_drewN (Below.refl _ _) _).alloc (by have := hbr.size; simp; omega) _).trans hb8
        have hlen8 : (ivs acc ++ ivs [y]).length = la + 1 := by rw [List.length_append, ivs_length, ivs_length, HLEN.out]; rfl
        go_roundw
        case rel =>
          have he := HEQ.out
          refine ⟨[], b', acc ++ [y], ⟨_, c1, rfl, hac, HM.out, (hsa.below hbx8)⟩, ⟨B2, c2 - 1, rfl, by omega, by have := HM'.out; omega, (hsb2.below hbx8)⟩, ?_, hbr8, ?_, by first | omega | (simp; omega), by first | omega | (simp; omega)⟩
          · rw [← ivs_append] at hown8; exact hown8
          · rw [mrg] at he; simpa [hk] using he
        case measure => first | (simp [sliceLen]; done) | (simp [sliceLen]; omega)
    · rcases b' with _ | ⟨y, b'⟩
      · obtain ⟨ba, oa, eA, hba, hca⟩ := hsa.int 0 (by simp)
        subst eA
        simp only [List.getElem_cons_zero, Nat.add_zero] at hca
        have hlea : a'.length + 1 ≤ 65536 := by simp at hla; omega
        simp only [List.length_cons] at hac hla ⊢
        have za : ((a'.length : Int) + 1 == 0) = false := by rw [beq_eq_false_iff_ne]; omega
        have pa : decide ((0 : Int) < (a'.length : Int) + 1) = true := decide_eq_true (by omega)
        simp only [List.length_nil] at hbc hlb ⊢
        obtain ⟨A2, hcutA, hsa2⟩ := cut_fact (P := Try.prog) 32 3 i0 Try.underlying32 hi hz1 hsa (a'.length + 1) a'.length 1 c1 1 .i64 (by rw [ivs_length]; rfl) rfl rfl hac
        have hk : fEither true false = true := rfl
        go_wp2
        go_quiet (fail)
        go_wp2
        go_quiet (fail)
        go_wp2
        go_quiet (fail)
        go_wp2_with fail
        refine (keep_either true false _).mono ?_
        rintro e wk ⟨rfl, rfl⟩
        rw [hk]
        go_wp2_with (first
          | (at_builtin
             refine wpList_app _ rfl (.tmp 69) (.tmp 71) _ rfl w.heap.size 3 i0 _ 8 Try.underlying32 hi hz0 hz1 hz2 rfl (.slice A7 la c7) (ivs acc) la rfl (by rw [ivs_length, HLEN.out]) (Own.drewN hown _ |>.alloc _) (wr.heap.size + 1) (some ⟨wr.heap.size, 0, none⟩) 1 (ivs [x]) 1 rfl rfl (sees_lit (wr.drewN _) _ 3 (0, 0) _ rfl) (ivs_one _) (by simp [maxLen]; omega) (by omega) (by have := hbr.size; simp; omega) ?_
             intro A8 c8 w8 hown8 hb8 hg8 hat8)
          | fail)
        have hbr8 : Below w.heap.size w w8 := ((below_drewN hbr _).alloc (by have := hbr.size; simp; omega) _).trans hb8
        have hbx8 : Below w.heap.size wr w8 := ((below_drewN (Below.refl _ _) _).alloc (by have := hbr.size; simp; omega) _).trans hb8
        have hlen8 : (ivs acc ++ ivs [x]).length = la + 1 := by rw [List.length_append, ivs_length, ivs_length, HLEN.out]; rfl
        go_roundw
        case rel =>
          have he := HEQ.out
          refine ⟨a', [], acc ++ [x], ⟨A2, c1 - 1, rfl, by omega, by have := HM.out; omega, (hsa2.below hbx8)⟩, ⟨_, c2, rfl, hbc, HM'.out, (hsb.below hbx8)⟩, ?_, hbr8, ?_, by first | omega | (simp; omega), by first | omega | (simp; omega)⟩
          · rw [← ivs_append] at hown8; exact hown8
          · rw [mrg] at he; simpa [hk] using he
        case measure => first | (simp [sliceLen]; done) | (simp [sliceLen]; omega)
      · rcases Int.lt_trichotomy x y with hxy | hxy | hxy
        · obtain ⟨ba, oa, eA, hba, hca⟩ := hsa.int 0 (by simp)
          subst eA
          simp only [List.getElem_cons_zero, Nat.add_zero] at hca
          have hlea : a'.length + 1 ≤ 65536 := by simp at hla; omega
          simp only [List.length_cons] at hac hla ⊢
          have za : ((a'.length : Int) + 1 == 0) = false := by rw [beq_eq_false_iff_ne]; omega
          have pa : decide ((0 : Int) < (a'.length : Int) + 1) = true := decide_eq_true (by omega)
          obtain ⟨bb, ob, eB, hbb, hcb⟩ := hsb.int 0 (by simp)
          subst eB
          simp only [List.getElem_cons_zero, Nat.add_zero] at hcb
          have hleb : b'.length + 1 ≤ 65536 := by simp at hlb; omega
          simp only [List.length_cons] at hbc hlb ⊢
          have zb : ((b'.length : Int) + 1 == 0) = false := by rw [beq_eq_false_iff_ne]; omega
          have pb : decide ((0 : Int) < (b'.length : Int) + 1) = true := decide_eq_true (by omega)
          have d1 : decide (x ≤ y) = true := by simp; omega
          have d2 : decide (y ≤ x) = false := by simp; omega
          obtain ⟨A2, hcutA, hsa2⟩ := cut_fact (P := Try.prog) 32 3 i0 Try.underlying32 hi hz1 hsa (a'.length + 1) a'.length 1 c1 1 .i64 (by rw [ivs_length]; rfl) rfl rfl hac
          have hk : fEither true false = true := rfl
          go_wp2
          go_quiet (fail)
          go_wp2
          go_quiet (fail)
          go_wp2
          go_quiet (fail)
          go_wp2_with fail
          refine (keep_either true false _).mono ?_
          rintro e wk ⟨rfl, rfl⟩
          rw [hk]
          go_wp2_with (first
            | (at_builtin
               refine wpList_app _ rfl (.tmp 69) (.tmp 71) _ rfl w.heap.size 3 i0 _ 8 Try.underlying32 hi hz0 hz1 hz2 rfl (.slice A7 la c7) (ivs acc) la rfl (by rw [ivs_length, HLEN.out]) (Own.drewN hown _ |>.alloc _) (wr.heap.size + 1) (some ⟨wr.heap.size, 0, none⟩) 1 (ivs [x]) 1 rfl rfl (sees_lit (wr.drewN _) _ 3 (0, 0) _ rfl) (ivs_one _) (by simp [maxLen]; omega) (by omega) (by have := hbr.size; simp; omega) ?_
               intro A8 c8 w8 hown8 hb8 hg8 hat8)
            | fail)
          have hbr8 : Below w.heap.size w w8 := ((below_drewN hbr _).alloc (by have := hbr.size; simp; omega) _).trans hb8
          have hbx8 : Below w.heap.size wr w8 := ((below_drewN (Below.refl _ _) _).alloc (by have := hbr.size; simp; omega) _).trans hb8
          have hlen8 : (ivs acc ++ ivs [x]).length = la + 1 := by rw [List.length_append, ivs_length, ivs_length, HLEN.out]; rfl
          go_roundw
          case rel =>
            have he := HEQ.out
            refine ⟨a', (y :: b'), acc ++ [x], ⟨A2, c1 - 1, rfl, by omega, by have := HM.out; omega, (hsa2.below hbx8)⟩, ⟨_, c2, rfl, hbc, HM'.out, (hsb.below hbx8)⟩, ?_, hbr8, ?_, by first | omega | (simp; omega), by first | omega | (simp; omega)⟩
            · rw [← ivs_append] at hown8; exact hown8
            · rw [mrg, if_pos (by simpa using hxy)] at he; simpa [hk] using he
          case measure => first | (simp [sliceLen]; done) | (simp [sliceLen]; omega)
        · obtain ⟨ba, oa, eA, hba, hca⟩ := hsa.int 0 (by simp)
          subst eA
          simp only [List.getElem_cons_zero, Nat.add_zero] at hca
          have hlea : a'.length + 1 ≤ 65536 := by simp at hla; omega
          simp only [List.length_cons] at hac hla ⊢
          have za : ((a'.length : Int) + 1 == 0) = false := by rw [beq_eq_false_iff_ne]; omega
          have pa : decide ((0 : Int) < (a'.length : Int) + 1) = true := decide_eq_true (by omega)
          obtain ⟨bb, ob, eB, hbb, hcb⟩ := hsb.int 0 (by simp)
          subst eB
          simp only [List.getElem_cons_zero, Nat.add_zero] at hcb
          have hleb : b'.length + 1 ≤ 65536 := by simp at hlb; omega
          simp only [List.length_cons] at hbc hlb ⊢
          have zb : ((b'.length : Int) + 1 == 0) = false := by rw [beq_eq_false_iff_ne]; omega
          have pb : decide ((0 : Int) < (b'.length : Int) + 1) = true := decide_eq_true (by omega)
          have d1 : decide (x ≤ y) = true := by simp; omega
          have d2 : decide (y ≤ x) = true := by simp; omega
          have HXY := Lib.hid hxy
          clear hxy
          obtain ⟨A2, hcutA, hsa2⟩ := cut_fact (P := Try.prog) 32 3 i0 Try.underlying32 hi hz1 hsa (a'.length + 1) a'.length 1 c1 1 .i64 (by rw [ivs_length]; rfl) rfl rfl hac
          obtain ⟨B2, hcutB, hsb2⟩ := cut_fact (P := Try.prog) 32 3 i0 Try.underlying32 hi hz1 hsb (b'.length + 1) b'.length 1 c2 1 .i64 (by rw [ivs_length]; rfl) rfl rfl hbc
          have hk : fEither true true = true := rfl
          go_wp2
          go_quiet (fail)
          go_wp2
          go_quiet (fail)
          go_wp2
          go_quiet (fail)
          go_wp2
          go_quiet (fail)
          go_wp2_with fail
          refine (keep_either true true _).mono ?_
          rintro e wk ⟨rfl, rfl⟩
          rw [hk]
          go_wp2_with (first
            | (at_builtin
               refine wpList_app _ rfl (.tmp 69) (.tmp 71) _ rfl w.heap.size 3 i0 _ 8 Try.underlying32 hi hz0 hz1 hz2 rfl (.slice A7 la c7) (ivs acc) la rfl (by rw [ivs_length, HLEN.out]) (Own.drewN hown _ |>.alloc _) (wr.heap.size + 1) (some ⟨wr.heap.size, 0, none⟩) 1 (ivs [x]) 1 rfl rfl (sees_lit (wr.drewN _) _ 3 (0, 0) _ rfl) (ivs_one _) (by simp [maxLen]; omega) (by omega) (by have := hbr.size; simp; omega) ?_
               intro A8 c8 w8 hown8 hb8 hg8 hat8)
            | fail)
          have hbr8 : Below w.heap.size w w8 := ((below_drewN hbr _).alloc (by have := hbr.size; simp; omega) _).trans hb8
          have hbx8 : Below w.heap.size wr w8 := ((below_drewN (Below.refl _ _) _).alloc (by have := hbr.size; simp; omega) _).trans hb8
          have hlen8 : (ivs acc ++ ivs [x]).length = la + 1 := by rw [List.length_append, ivs_length, ivs_length, HLEN.out]; rfl
          go_roundw
          case rel =>
            have he := HEQ.out
            refine ⟨a', b', acc ++ [x], ⟨A2, c1 - 1, rfl, by omega, by have := HM.out; omega, (hsa2.below hbx8)⟩, ⟨B2, c2 - 1, rfl, by omega, by have := HM'.out; omega, (hsb2.below hbx8)⟩, ?_, hbr8, ?_, by first | omega | (simp; omega), by first | omega | (simp; omega)⟩
            · rw [← ivs_append] at hown8; exact hown8
            · rw [mrg, if_neg (by have := HXY.out; omega), if_neg (by have := HXY.out; omega)] at he; simpa [hk] using he
          case measure => first | (simp [sliceLen]; done) | (simp [sliceLen]; omega)
        · obtain ⟨ba, oa, eA, hba, hca⟩ := hsa.int 0 (by simp)
          subst eA
          simp only [List.getElem_cons_zero, Nat.add_zero] at hca
          have hlea : a'.length + 1 ≤ 65536 := by simp at hla; omega
          simp only [List.length_cons] at hac hla ⊢
          have za : ((a'.length : Int) + 1 == 0) = false := by rw [beq_eq_false_iff_ne]; omega
          have pa : decide ((0 : Int) < (a'.length : Int) + 1) = true := decide_eq_true (by omega)
          obtain ⟨bb, ob, eB, hbb, hcb⟩ := hsb.int 0 (by simp)
          subst eB
          simp only [List.getElem_cons_zero, Nat.add_zero] at hcb
          have hleb : b'.length + 1 ≤ 65536 := by simp at hlb; omega
          simp only [List.length_cons] at hbc hlb ⊢
          have zb : ((b'.length : Int) + 1 == 0) = false := by rw [beq_eq_false_iff_ne]; omega
          have pb : decide ((0 : Int) < (b'.length : Int) + 1) = true := decide_eq_true (by omega)
          have d1 : decide (x ≤ y) = false := by simp; omega
          have d2 : decide (y ≤ x) = true := by simp; omega
          obtain ⟨B2, hcutB, hsb2⟩ := cut_fact (P := Try.prog) 32 3 i0 Try.underlying32 hi hz1 hsb (b'.length + 1) b'.length 1 c2 1 .i64 (by rw [ivs_length]; rfl) rfl rfl hbc
          have hk : fEither false true = true := rfl
          go_wp2
          go_quiet (fail)
          go_wp2
          go_quiet (fail)
          go_wp2
          go_quiet (fail)
          go_wp2_with fail
          refine (keep_either false true _).mono ?_
          rintro e wk ⟨rfl, rfl⟩
          rw [hk]
          go_wp2_with (first
            | (at_builtin
               refine wpList_app _ rfl (.tmp 69) (.tmp 71) _ rfl w.heap.size 3 i0 _ 8 Try.underlying32 hi hz0 hz1 hz2 rfl (.slice A7 la c7) (ivs acc) la rfl (by rw [ivs_length, HLEN.out]) (Own.drewN hown _ |>.alloc _) (wr.heap.size + 1) (some ⟨wr.heap.size, 0, none⟩) 1 (ivs [y]) 1 rfl rfl (sees_lit (wr.drewN _) _ 3 (0, 0) _ rfl) (ivs_one _) (by simp [maxLen]; omega) (by omega) (by have := hbr.size; simp; omega) ?_
               intro A8 c8 w8 hown8 hb8 hg8 hat8)
            | fail)
          have hbr8 : Below w.heap.size w w8 := ((below_drewN hbr _).alloc (by have := hbr.size; simp; omega) _).trans hb8
          have hbx8 : Below w.heap.size wr w8 := ((below_drewN (Below.refl _ _) _).alloc (by have := hbr.size; simp; omega) _).trans hb8
          have hlen8 : (ivs acc ++ ivs [y]).length = la + 1 := by rw [List.length_append, ivs_length, ivs_length, HLEN.out]; rfl
          go_roundw
          case rel =>
            have he := HEQ.out
            refine ⟨(x :: a'), b', acc ++ [y], ⟨_, c1, rfl, hac, HM.out, (hsa.below hbx8)⟩, ⟨B2, c2 - 1, rfl, by omega, by have := HM'.out; omega, (hsb2.below hbx8)⟩, ?_, hbr8, ?_, by first | omega | (simp; omega), by first | omega | (simp; omega)⟩
            · rw [← ivs_append] at hown8; exact hown8
            · rw [mrg, if_neg (by omega), if_pos (by omega)] at he; simpa [hk] using he
          case measure => first | (simp [sliceLen]; done) | (simp [sliceLen]; omega)
end Go.Proofs.Ytglhgdkghddcaaa
