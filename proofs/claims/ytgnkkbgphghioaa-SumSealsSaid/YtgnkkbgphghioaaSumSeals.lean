/- SumSeals: what is sealed is the document's, and is opened again; bytes are opened just if they are sealed: for every input. No condition. -/
import Derived.Test.YtgnkkbgphghioaaSumE
namespace Go.Proofs.Ytgnkkbgphghioaa
set_option linter.unusedVariables false
open Go.ChangeShapes Go.WideShapes Go.ChangeAt Go.RowKit SumM

theorem ref_seal (l : List UInt8) (hm : l.length ≤ 65536) (w : World) : Calls Try.prog 40 #[.string (str l)] w fun e w' => e = .returned (.string (str (sealOf l))) ∧ Below w.heap.size w w' := by
  have hst := run_str (P := Try.prog) _ _ 22 5 9 Try.underlying22 Try.underlying5 Try.underlying9 _ 4 4 (le4 (sumOf l)) rfl (sees_lit w _ 5 (0, 0) _ (le4_vals (sumOf l)))
  have hz1 : (str l).size ≤ 65536 := by rw [str_size]; exact hm
  have hz2 : (str (le4 (sumOf l))).size ≤ 4 := by rw [str_size]; simp [le4_length]
  go_enter Try.func40, Try.ntmps40
  go_wp2_with fail
  refine (ref_of l (by simp [maxLen]; omega) _).mono ?_
  rintro e w' ⟨rfl, rfl⟩
  go_wp2
  go_ret
  exact ⟨by rw [str_append]; rfl, (Below.refl _ _).alloc (Nat.le_refl _) _⟩

theorem str_same (a b : List UInt8) : ((str a).toList == (str b).toList) = decide (a = b) := by
  rw [str_list, str_list]
  by_cases h : a = b <;> simp [h]
theorem sealOf_take {l : List UInt8} {m : Nat} (h : l.length = m + 4) : (sealOf (l.take m) = l ↔ openOf l = some (l.take m)) ∧ (openOf l = none ↔ ¬ sealOf (l.take m) = l) := by
  have e : sealOf (l.take m) = l ↔ le4 (sumOf (l.take m)) = l.drop m := by
    unfold sealOf
    constructor
    · intro h'
      have h2 : l.take m ++ le4 (sumOf (l.take m)) = l.take m ++ l.drop m := by rw [List.take_append_drop]; exact h'
      exact List.append_cancel_left h2
    · intro h'; rw [h', List.take_append_drop]
  have hm : l.length - 4 = m := by omega
  unfold openOf
  rw [hm, e]
  by_cases hc : le4 (sumOf (l.take m)) = l.drop m
  · rw [if_pos ⟨by omega, hc⟩]; simp [hc]
  · rw [if_neg (by rintro ⟨_, h'⟩; exact hc h')]; simp [hc]

set_option maxHeartbeats 1600000 in
theorem walk_seals_short (A : Option Addr) (c : Nat) (l : List UInt8) (h4 : l.length < 4) (w : World) (hs : Sees w w.heap.size A (bvs l)) (h1 : l.length ≤ 2000) (hnc : l.length ≤ c) (hcm : c ≤ maxLen) :
    Calls Try.prog 7 #[.slice A l.length c] w fun e w' => e = .returned (.bool true) ∧ Below w.heap.size w w' := by
  have HCM := Lib.hid hcm
  unfold maxLen at hcm
  go_enter Try.func7, Try.ntmps7
  go_wp2_with fail
  refine (seal_any _ _ _ l _ w.heap.size rfl hs (Nat.le_refl _) (by omega)).mono ?_
  rintro e w1 ⟨A1, c1, rfl, hown1, hb1⟩
  have hs1 := (hown1.sees)
  have hcap := hown1.cap
  go_wp2_with fail
  refine (open_yes _ _ _ (sealOf l) l _ _ (by simp [sealOf, le4_length]) hcap.1 hcap.2 (by omega) hs1 (Nat.le_refl _) (openOf_seal l)).mono ?_
  rintro e w2 ⟨_, A2, c2, rfl, hown2, hb2⟩
  have hbw2 : Below w.heap.size w w2 := hb1.trans (hb2.mono hb1.size)
  have hcap2 := hown2.cap
  go_wp2_with fail
  refine (open_no _ _ _ l _ _ rfl hnc HCM.out (hs.below hbw2) (by unfold openOf; rw [if_neg (by omega)])).mono ?_
  rintro e w3 ⟨rfl, hb3⟩
  go_wp2
  have hbw3 : Below w.heap.size w w3 := hbw2.trans (hb3.mono hbw2.size)
  have hsb : Sees w3 w3.heap.size A (bvs l) := (hs.below hbw3).more hbw3.size
  have hss : Sees w3 w3.heap.size A1 (bvs (sealOf l)) := ((hs1.below hb2).more hb2.size |>.below hb3).more hb3.size
  have hsx : Sees w3 w3.heap.size A2 (bvs l) := (hown2.sees.below hb3).more hb3.size
  have fb : ∀ k : Later w3.heap.size w3, Sem.run Try.prog (convert 22 9 (.slice A l.length c)) k.val = .ok (.string (str l)) k.val := fun k =>
    run_str k.val _ _ _ _ Try.underlying22 Try.underlying5 Try.underlying9 A l.length c l rfl (hsb.below k.below)
  have fs : ∀ k : Later w3.heap.size w3, Sem.run Try.prog (convert 22 9 (.slice A1 (l.length + 4) c1)) k.val = .ok (.string (str (sealOf l))) k.val := fun k =>
    run_str k.val _ _ _ _ Try.underlying22 Try.underlying5 Try.underlying9 A1 (l.length + 4) c1 (sealOf l) (by simp [sealOf, le4_length]) (hss.below k.below)
  have fx : ∀ k : Later w3.heap.size w3, Sem.run Try.prog (convert 22 9 (.slice A2 l.length c2)) k.val = .ok (.string (str l)) k.val := fun k =>
    run_str k.val _ _ _ _ Try.underlying22 Try.underlying5 Try.underlying9 A2 l.length c2 l rfl (hsx.below k.below)
  have eb : ((str l).toList == (str l).toList) = true := by simp
  have es : ((str (sealOf l)).toList == (str (sealOf l)).toList) = true := by simp
  refine wp_region_later w3.heap.size (by kernel_rfl) (by kernel_rfl) ?_
  repeat (go_big_quiet_step (first
    | (go_at_call 40; exact later_own _ (Nat.le_refl _) (ref_seal l (by omega) _))))
  refine wpQuiet_nil ?_
  rintro w4 ⟨⟨_, hb4⟩, rfl⟩
  have hbw4 : Below w.heap.size w w4 := hbw3.trans (hb4.mono hbw3.size)
  have hsb4 : Sees w4 w4.heap.size A (bvs l) := (hs.below hbw4).more hbw4.size
  clear fb fs fx hss hsx
  go_wp2
  have hd1 : decide (0 ≤ (l.length : Int) - 4) = false := by simp; omega
  have hd2 : decide (4 ≤ (l.length : Int)) = false := by simp; omega
  have hd3 : decide (4 ≤ l.length) = false := by simp; omega
  have fb : ∀ k : Later w4.heap.size w4, Sem.run Try.prog (convert 22 9 (.slice A l.length c)) k.val = .ok (.string (str l)) k.val := fun k =>
    run_str k.val _ _ _ _ Try.underlying22 Try.underlying5 Try.underlying9 A l.length c l rfl (hsb4.below k.below)
  refine wp_region_later w4.heap.size (by kernel_rfl) (by kernel_rfl) ?_
  repeat (go_big_quiet_step (fail))
  refine wpQuiet_nil ?_
  rintro w5 ⟨⟨_, hb5⟩, rfl⟩
  have hbw5 : Below w.heap.size w w5 := hbw4.trans (hb5.mono hbw4.size)
  clear fb
  go_wp2
  
  refine wp_region_later w5.heap.size (by kernel_rfl) (by kernel_rfl) ?_
  repeat (go_big_quiet_step (first
    | (go_at_call 33; exact later_own _ (Nat.le_refl _) (sum_awake _))))
  refine wpQuiet_nil ?_
  rintro w6 ⟨⟨_, hb6⟩, rfl⟩
  go_wp2
  go_ret
  exact ⟨rfl, hbw5.trans (hb6.mono hbw5.size)⟩

set_option maxHeartbeats 1600000 in
theorem walk_seals_no (A : Option Addr) (c : Nat) (l : List UInt8) (m : Nat) (hlm : l.length = m + 4) (hno : openOf l = none) (w : World) (hs : Sees w w.heap.size A (bvs l)) (h1 : l.length ≤ 2000) (hnc : l.length ≤ c) (hcm : c ≤ maxLen) :
    Calls Try.prog 7 #[.slice A l.length c] w fun e w' => e = .returned (.bool true) ∧ Below w.heap.size w w' := by
  have HCM := Lib.hid hcm
  unfold maxLen at hcm
  have HLM := Lib.hid hlm
  have HNO := Lib.hid hno
  have hm2000 : m ≤ 2000 := by omega
  clear hlm hno
  go_enter Try.func7, Try.ntmps7
  go_wp2_with fail
  refine (seal_any _ _ _ l _ w.heap.size rfl hs (Nat.le_refl _) (by omega)).mono ?_
  rintro e w1 ⟨A1, c1, rfl, hown1, hb1⟩
  have hs1 := (hown1.sees)
  have hcap := hown1.cap
  go_wp2_with fail
  refine (open_yes _ _ _ (sealOf l) l _ _ (by simp [sealOf, le4_length]) hcap.1 hcap.2 (by omega) hs1 (Nat.le_refl _) (openOf_seal l)).mono ?_
  rintro e w2 ⟨_, A2, c2, rfl, hown2, hb2⟩
  have hbw2 : Below w.heap.size w w2 := hb1.trans (hb2.mono hb1.size)
  have hcap2 := hown2.cap
  go_wp2_with fail
  refine (open_no _ _ _ l _ _ rfl hnc HCM.out (hs.below hbw2) HNO.out).mono ?_
  rintro e w3 ⟨rfl, hb3⟩
  go_wp2
  have hbw3 : Below w.heap.size w w3 := hbw2.trans (hb3.mono hbw2.size)
  have hsb : Sees w3 w3.heap.size A (bvs l) := (hs.below hbw3).more hbw3.size
  have hss : Sees w3 w3.heap.size A1 (bvs (sealOf l)) := ((hs1.below hb2).more hb2.size |>.below hb3).more hb3.size
  have hsx : Sees w3 w3.heap.size A2 (bvs l) := (hown2.sees.below hb3).more hb3.size
  have fb : ∀ k : Later w3.heap.size w3, Sem.run Try.prog (convert 22 9 (.slice A l.length c)) k.val = .ok (.string (str l)) k.val := fun k =>
    run_str k.val _ _ _ _ Try.underlying22 Try.underlying5 Try.underlying9 A l.length c l rfl (hsb.below k.below)
  have fs : ∀ k : Later w3.heap.size w3, Sem.run Try.prog (convert 22 9 (.slice A1 (l.length + 4) c1)) k.val = .ok (.string (str (sealOf l))) k.val := fun k =>
    run_str k.val _ _ _ _ Try.underlying22 Try.underlying5 Try.underlying9 A1 (l.length + 4) c1 (sealOf l) (by simp [sealOf, le4_length]) (hss.below k.below)
  have fx : ∀ k : Later w3.heap.size w3, Sem.run Try.prog (convert 22 9 (.slice A2 l.length c2)) k.val = .ok (.string (str l)) k.val := fun k =>
    run_str k.val _ _ _ _ Try.underlying22 Try.underlying5 Try.underlying9 A2 l.length c2 l rfl (hsx.below k.below)
  have eb : ((str l).toList == (str l).toList) = true := by simp
  have es : ((str (sealOf l)).toList == (str (sealOf l)).toList) = true := by simp
  refine wp_region_later w3.heap.size (by kernel_rfl) (by kernel_rfl) ?_
  repeat (go_big_quiet_step (first
    | (go_at_call 40; exact later_own _ (Nat.le_refl _) (ref_seal l (by omega) _))))
  refine wpQuiet_nil ?_
  rintro w4 ⟨⟨_, hb4⟩, rfl⟩
  have hbw4 : Below w.heap.size w w4 := hbw3.trans (hb4.mono hbw3.size)
  have hsb4 : Sees w4 w4.heap.size A (bvs l) := (hs.below hbw4).more hbw4.size
  clear fb fs fx hss hsx
  go_wp2
  have hne := (sealOf_take HLM.out).2.1 HNO.out
  have eseal : ((str (sealOf (l.take m))).toList == (str l).toList) = false := by rw [str_same]; exact decide_eq_false hne
  have hlm2 : (l.length : Int) - 4 = (m : Int) := by have := HLM.out; omega
  clear hne
  rw [hlm2]
  clear hlm2
  have hmc : (m : Int) ≤ (c : Int) := by have := HLM.out; omega
  have fm : ∀ k : Later w4.heap.size w4, Sem.run Try.prog (convert 22 9 (.slice A m c)) k.val = .ok (.string (str (l.take m))) k.val := fun k =>
    run_str k.val _ _ _ _ Try.underlying22 Try.underlying5 Try.underlying9 A m c (l.take m) (by rw [List.length_take]; have := HLM.out; omega) (by
      have := (hsb4.below k.below).take m
      rwa [show (bvs l).take m = bvs (l.take m) from by simp [bvs, List.map_take]] at this)
  have fb : ∀ k : Later w4.heap.size w4, Sem.run Try.prog (convert 22 9 (.slice A l.length c)) k.val = .ok (.string (str l)) k.val := fun k =>
    run_str k.val _ _ _ _ Try.underlying22 Try.underlying5 Try.underlying9 A l.length c l rfl (hsb4.below k.below)
  refine wp_region_later w4.heap.size (by kernel_rfl) (by kernel_rfl) ?_
  repeat (go_big_quiet_step (first
    | (go_at_call 40; exact later_own _ (Nat.le_refl _) (ref_seal (l.take m) (by rw [List.length_take]; omega) _))))
  refine wpQuiet_nil ?_
  rintro w5 ⟨⟨_, hb5⟩, rfl⟩
  have hbw5 : Below w.heap.size w w5 := hbw4.trans (hb5.mono hbw4.size)
  clear fb
  go_wp2
  
  refine wp_region_later w5.heap.size (by kernel_rfl) (by kernel_rfl) ?_
  repeat (go_big_quiet_step (first
    | (go_at_call 33; exact later_own _ (Nat.le_refl _) (sum_awake _))))
  refine wpQuiet_nil ?_
  rintro w6 ⟨⟨_, hb6⟩, rfl⟩
  go_wp2
  go_ret
  exact ⟨rfl, hbw5.trans (hb6.mono hbw5.size)⟩

set_option maxHeartbeats 1600000 in
theorem walk_seals_yes (A : Option Addr) (c : Nat) (l : List UInt8) (m : Nat) (hlm : l.length = m + 4) (hno : openOf l = some (l.take m)) (w : World) (hs : Sees w w.heap.size A (bvs l)) (h1 : l.length ≤ 2000) (hnc : l.length ≤ c) (hcm : c ≤ maxLen) :
    Calls Try.prog 7 #[.slice A l.length c] w fun e w' => e = .returned (.bool true) ∧ Below w.heap.size w w' := by
  have HCM := Lib.hid hcm
  unfold maxLen at hcm
  have HLM := Lib.hid hlm
  have HNO := Lib.hid hno
  have hm2000 : m ≤ 2000 := by omega
  clear hlm hno
  go_enter Try.func7, Try.ntmps7
  go_wp2_with fail
  refine (seal_any _ _ _ l _ w.heap.size rfl hs (Nat.le_refl _) (by omega)).mono ?_
  rintro e w1 ⟨A1, c1, rfl, hown1, hb1⟩
  have hs1 := (hown1.sees)
  have hcap := hown1.cap
  go_wp2_with fail
  refine (open_yes _ _ _ (sealOf l) l _ _ (by simp [sealOf, le4_length]) hcap.1 hcap.2 (by omega) hs1 (Nat.le_refl _) (openOf_seal l)).mono ?_
  rintro e w2 ⟨_, A2, c2, rfl, hown2, hb2⟩
  have hbw2 : Below w.heap.size w w2 := hb1.trans (hb2.mono hb1.size)
  have hcap2 := hown2.cap
  go_wp2_with fail
  refine (open_yes _ _ _ l (l.take m) _ _ rfl hnc HCM.out (by omega) (hs.below hbw2) hbw2.size HNO.out).mono ?_
  rintro e w3 ⟨hq, A3, c3, rfl, hown3, hb3⟩
  clear hq
  have hlt : (l.take m).length = m := by rw [List.length_take]; have := HLM.out; omega
  rw [hlt] at hown3 ⊢
  clear hlt
  go_wp2
  have hbw3 : Below w.heap.size w w3 := hbw2.trans (hb3.mono hbw2.size)
  have hsb : Sees w3 w3.heap.size A (bvs l) := (hs.below hbw3).more hbw3.size
  have hss : Sees w3 w3.heap.size A1 (bvs (sealOf l)) := ((hs1.below hb2).more hb2.size |>.below hb3).more hb3.size
  have hsx : Sees w3 w3.heap.size A2 (bvs l) := (hown2.sees.below hb3).more hb3.size
  have fb : ∀ k : Later w3.heap.size w3, Sem.run Try.prog (convert 22 9 (.slice A l.length c)) k.val = .ok (.string (str l)) k.val := fun k =>
    run_str k.val _ _ _ _ Try.underlying22 Try.underlying5 Try.underlying9 A l.length c l rfl (hsb.below k.below)
  have fs : ∀ k : Later w3.heap.size w3, Sem.run Try.prog (convert 22 9 (.slice A1 (l.length + 4) c1)) k.val = .ok (.string (str (sealOf l))) k.val := fun k =>
    run_str k.val _ _ _ _ Try.underlying22 Try.underlying5 Try.underlying9 A1 (l.length + 4) c1 (sealOf l) (by simp [sealOf, le4_length]) (hss.below k.below)
  have fx : ∀ k : Later w3.heap.size w3, Sem.run Try.prog (convert 22 9 (.slice A2 l.length c2)) k.val = .ok (.string (str l)) k.val := fun k =>
    run_str k.val _ _ _ _ Try.underlying22 Try.underlying5 Try.underlying9 A2 l.length c2 l rfl (hsx.below k.below)
  have eb : ((str l).toList == (str l).toList) = true := by simp
  have es : ((str (sealOf l)).toList == (str (sealOf l)).toList) = true := by simp
  refine wp_region_later w3.heap.size (by kernel_rfl) (by kernel_rfl) ?_
  repeat (go_big_quiet_step (first
    | (go_at_call 40; exact later_own _ (Nat.le_refl _) (ref_seal l (by omega) _))))
  refine wpQuiet_nil ?_
  rintro w4 ⟨⟨_, hb4⟩, rfl⟩
  have hbw4 : Below w.heap.size w w4 := hbw3.trans (hb4.mono hbw3.size)
  have hsb4 : Sees w4 w4.heap.size A (bvs l) := (hs.below hbw4).more hbw4.size
  clear fb fs fx hss hsx
  go_wp2
  have hne := (sealOf_take HLM.out).1.2 HNO.out
  have eseal : ((str (sealOf (l.take m))).toList == (str l).toList) = true := by rw [str_same]; exact decide_eq_true hne
  have hlm2 : (l.length : Int) - 4 = (m : Int) := by have := HLM.out; omega
  clear hne
  rw [hlm2]
  clear hlm2
  have hmc : (m : Int) ≤ (c : Int) := by have := HLM.out; omega
  have fm : ∀ k : Later w4.heap.size w4, Sem.run Try.prog (convert 22 9 (.slice A m c)) k.val = .ok (.string (str (l.take m))) k.val := fun k =>
    run_str k.val _ _ _ _ Try.underlying22 Try.underlying5 Try.underlying9 A m c (l.take m) (by rw [List.length_take]; have := HLM.out; omega) (by
      have := (hsb4.below k.below).take m
      rwa [show (bvs l).take m = bvs (l.take m) from by simp [bvs, List.map_take]] at this)
  have fb : ∀ k : Later w4.heap.size w4, Sem.run Try.prog (convert 22 9 (.slice A l.length c)) k.val = .ok (.string (str l)) k.val := fun k =>
    run_str k.val _ _ _ _ Try.underlying22 Try.underlying5 Try.underlying9 A l.length c l rfl (hsb4.below k.below)
  refine wp_region_later w4.heap.size (by kernel_rfl) (by kernel_rfl) ?_
  repeat (go_big_quiet_step (first
    | (go_at_call 40; exact later_own _ (Nat.le_refl _) (ref_seal (l.take m) (by rw [List.length_take]; omega) _))))
  refine wpQuiet_nil ?_
  rintro w5 ⟨⟨_, hb5⟩, rfl⟩
  have hbw5 : Below w.heap.size w w5 := hbw4.trans (hb5.mono hbw4.size)
  clear fb
  go_wp2
  have hsb5 : Sees w5 w5.heap.size A (bvs l) := (hs.below hbw5).more hbw5.size
  have hsy : Sees w5 w5.heap.size A3 (bvs (l.take m)) := ((hown3.sees.below hb4).more hb4.size |>.below hb5).more hb5.size
  have fm : ∀ k : Later w5.heap.size w5, Sem.run Try.prog (convert 22 9 (.slice A m c)) k.val = .ok (.string (str (l.take m))) k.val := fun k =>
    run_str k.val _ _ _ _ Try.underlying22 Try.underlying5 Try.underlying9 A m c (l.take m) (by rw [List.length_take]; have := HLM.out; omega) (by
      have := (hsb5.below k.below).take m
      rwa [show (bvs l).take m = bvs (l.take m) from by simp [bvs, List.map_take]] at this)
  have fy : ∀ k : Later w5.heap.size w5, Sem.run Try.prog (convert 22 9 (.slice A3 m c3)) k.val = .ok (.string (str (l.take m))) k.val := fun k =>
    run_str k.val _ _ _ _ Try.underlying22 Try.underlying5 Try.underlying9 A3 m c3 (l.take m) (by rw [List.length_take]; have := HLM.out; omega) (hsy.below k.below)
  have ey : ((str (l.take m)).toList == (str (l.take m)).toList) = true := by simp
  refine wp_region_later w5.heap.size (by kernel_rfl) (by kernel_rfl) ?_
  repeat (go_big_quiet_step (first
    | (go_at_call 33; exact later_own _ (Nat.le_refl _) (sum_awake _))))
  refine wpQuiet_nil ?_
  rintro w6 ⟨⟨_, hb6⟩, rfl⟩
  go_wp2
  go_ret
  exact ⟨rfl, hbw5.trans (hb6.mono hbw5.size)⟩

theorem walk_seals (A : Option Addr) (c : Nat) (l : List UInt8) (w : World) (hs : Sees w w.heap.size A (bvs l)) (hnc : l.length ≤ c) (hcm : c ≤ maxLen) :
    Calls Try.prog 7 #[.slice A l.length c] w fun e w' => e = .returned (.bool true) ∧ Below w.heap.size w w' := by
  by_cases h1 : l.length ≤ 2000
  · by_cases h4 : l.length < 4
    · exact walk_seals_short A c l h4 w hs h1 hnc hcm
    · obtain ⟨m, hlm⟩ : ∃ m, l.length = m + 4 := ⟨l.length - 4, by omega⟩
      cases ho : openOf l with
      | none => exact walk_seals_no A c l m hlm ho w hs h1 hnc hcm
      | some q =>
        have hn : ¬ openOf l = none := by rw [ho]; simp
        have hy : sealOf (l.take m) = l := Classical.not_not.1 (fun h => hn ((sealOf_take hlm).2.2 h))
        exact walk_seals_yes A c l m hlm ((sealOf_take hlm).1.1 hy) w hs h1 hnc hcm
  · have h1' : (2000 : Int) < l.length := by omega
    have hm : l.length ≤ 9223372036854775807 := by unfold maxLen at hcm; omega
    go_enter Try.func7, Try.ntmps7
    go_wp2_with fail
    refine (sum_awake _).mono ?_
    rintro e w' ⟨rfl, hbel⟩
    go_wp2
    go_ret
    exact ⟨rfl, hbel⟩

set_option maxRecDepth 100000 in
theorem sumSeals_lifted (os : Os) (started : os.Started) (H : Type) (enc : TypeId × Value → H) :
    ReturnsInHanded {} Try.checked os 7 .any (Rows.sumSealsSpec.pre6 enc Try.prog Try.f7 Rows.sumSealsRow.domain false)
      (Rows.sumSealsSpec.post enc Try.prog Try.f7 false true false false) := by
  refine returnsInHanded_of_change (C := Try.checked) own started (by kernel_rfl) Try.func7
    (ChangeSpec.witness6 (enc := enc) (C := Try.checked) false ⟨#[], #[.slice none 0 0], []⟩ 8 (by kernel_rfl) (by kernel_rfl) (by kernel_rfl) (by kernel_rfl)) ?_
  intro W base args ds gs before hval hW _ _
  have hW' := hW
  obtain ⟨p, q, hA, hV, rfl, hfz, hnd⟩ := hW
  rw [Try.params7] at hA hval
  obtain ⟨v0, vs0, d0, ds0, p0, q0, hargs, rfl, rfl, h0, r0⟩ := trodAll_cons hA
  obtain ⟨rfl, rfl, rfl⟩ := trodAll_nil r0
  obtain rfl : args = #[v0] := by cases args; simp_all
  obtain ⟨A0, n0, c0, l0, rfl, hnc0, hcm0, rfl, hs0⟩ := open_bytes Try.underlying22 Try.underlying5 (by kernel_rfl) (hval 0 22 v0 rfl rfl) h0
  refine (walk_seals A0 c0 l0 W hs0 hnc0 hcm0).mono fun e W' ⟨he, hb⟩ => ?_
  subst he
  exact ⟨_, rfl, law_post laidOut (by intro t ht; revert t ht; decide +kernel) rfl rfl boolT rfl hW' hb⟩

theorem SumSeals_holds : Rows.SumSealsSaid :=
  OpenClaim.holds_of_wide 7 Try.f7 rfl rfl rfl rfl rfl rfl rfl ⟨rfl, rfl, rfl, rfl, rfl⟩ rfl rfl rfl rfl rfl (by kernel_rfl) Try.func7 (by kernel_rfl)
    (of_decide_eq_true (by kernel_rfl)) (by unfold Func.isWrapper; first | (rw [if_pos (by decide +kernel)]; kernel_rfl) | (rw [if_neg (by decide +kernel)]; exact ⟨rfl, rfl⟩))
    (fun os started H enc _ => sumSeals_lifted os started H enc)
end Go.Proofs.Ytgnkkbgphghioaa
