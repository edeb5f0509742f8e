/- SumTells: sums of bytes, and sums that are put together, are the document's: for every input. No condition. -/
import Derived.Test.YtgnkkbgphghioaaSumE
namespace Go.Proofs.Ytgnkkbgphghioaa
set_option linter.unusedVariables false
open Go.ChangeShapes Go.WideShapes Go.ChangeAt Go.RowKit SumM

set_option maxHeartbeats 800000 in
theorem walk_tells_in (A : Option Addr) (c : Nat) (l : List UInt8) (a0 a1 : W) (n : Nat) (w : World) (hs : Sees w w.heap.size A (bvs l)) (h1 : l.length ≤ 2000) (hn : n ≤ 5000) :
    Calls Try.prog 6 #[.slice A l.length c, .agg #[.int .u32 (a0.toNat : Int), .int .u32 (a1.toNat : Int)], .int .i64 (n : Int)] w
      fun e w' => e = .returned (.bool true) ∧ Below w.heap.size w w' := by
  have hs1 := hs.alloc (Nat.le_refl _) (.cells #[.int .u32 (a0.toNat : Int), .int .u32 (a1.toNat : Int)] 47)
  go_enter Try.func6, Try.ntmps6
  go_wp2
  obtain ⟨w1, hw1⟩ : ∃ w1, w1 = w.alloc (.cells #[.int .u32 (a0.toNat : Int), .int .u32 (a1.toNat : Int)] 47) := ⟨_, rfl⟩
  rw [← hw1] at hs1 ⊢
  have hsz : w1.heap.size = w.heap.size + 1 := by rw [hw1]; simp
  have hb1 : Below w.heap.size w w1 := by rw [hw1]; exact (Below.refl _ _).alloc (Nat.le_refl _) _
  have hc0 : ∀ k : Later w1.heap.size w1, k.val.cell? ⟨w.heap.size, 0, none⟩ = some (.int .u32 (a0.toNat : Int)) := fun k => by
    rw [k.below.cell (p := ⟨w.heap.size, 0, none⟩) (by rw [hsz]; simp), hw1, World.cell?_alloc_at _ _ _ _ rfl]; rfl
  have hc1 : ∀ k : Later w1.heap.size w1, k.val.cell? ⟨w.heap.size, 1, none⟩ = some (.int .u32 (a1.toNat : Int)) := fun k => by
    rw [k.below.cell (p := ⟨w.heap.size, 1, none⟩) (by rw [hsz]; simp), hw1, World.cell?_alloc_at _ _ _ _ rfl]; rfl
  have hs2 := hs1.more (B' := w1.heap.size) (by omega)
  have hst : ∀ k : Later w1.heap.size w1, Sem.run Try.prog (convert 22 9 (.slice A l.length c)) k.val = .ok (.string (str l)) k.val := fun k =>
    run_str k.val _ _ _ _ Try.underlying22 Try.underlying5 Try.underlying9 A l.length c l rfl (hs2.below k.below)
  clear hw1 hsz hs hs1
  refine wp_region_later w1.heap.size (by kernel_rfl) (by kernel_rfl) ?_
  repeat (go_big_quiet_step (first
    | (go_at_call 34; exact later_same _ (of_any _ _ _ l _ _ rfl (hs2.below (Later.below _)) (by simp [maxLen]; omega)))
    | (go_at_call 35; exact later_same _ (ref_of l (by simp [maxLen]; omega) _))
    | (go_at_call 36; exact later_same _ (join_any a0 a1 n (by omega) _))
    | (go_at_call 37; exact later_same _ (ref_join a0 a1 n (by omega) _))
    | (go_at_call 33; exact later_own _ (Nat.le_refl _) (sum_awake _))))
  refine wpQuiet_nil ?_
  rintro _ ⟨⟨w2, hb2⟩, rfl⟩
  go_wp2
  go_ret
  exact ⟨rfl, hb1.trans (hb2.mono hb1.size)⟩

set_option maxHeartbeats 800000 in
theorem walk_tells_neg (A : Option Addr) (c : Nat) (l : List UInt8) (a0 a1 : W) (n : Int) (w : World) (hs : Sees w w.heap.size A (bvs l)) (h1 : l.length ≤ 2000) (hn : n < 0) :
    Calls Try.prog 6 #[.slice A l.length c, .agg #[.int .u32 (a0.toNat : Int), .int .u32 (a1.toNat : Int)], .int .i64 n] w
      fun e w' => e = .returned (.bool true) ∧ Below w.heap.size w w' := by
  have hs1 := hs.alloc (Nat.le_refl _) (.cells #[.int .u32 (a0.toNat : Int), .int .u32 (a1.toNat : Int)] 47)
  go_enter Try.func6, Try.ntmps6
  go_wp2
  obtain ⟨w1, hw1⟩ : ∃ w1, w1 = w.alloc (.cells #[.int .u32 (a0.toNat : Int), .int .u32 (a1.toNat : Int)] 47) := ⟨_, rfl⟩
  rw [← hw1] at hs1 ⊢
  have hsz : w1.heap.size = w.heap.size + 1 := by rw [hw1]; simp
  have hb1 : Below w.heap.size w w1 := by rw [hw1]; exact (Below.refl _ _).alloc (Nat.le_refl _) _
  have hc0 : ∀ k : Later w1.heap.size w1, k.val.cell? ⟨w.heap.size, 0, none⟩ = some (.int .u32 (a0.toNat : Int)) := fun k => by
    rw [k.below.cell (p := ⟨w.heap.size, 0, none⟩) (by rw [hsz]; simp), hw1, World.cell?_alloc_at _ _ _ _ rfl]; rfl
  have hc1 : ∀ k : Later w1.heap.size w1, k.val.cell? ⟨w.heap.size, 1, none⟩ = some (.int .u32 (a1.toNat : Int)) := fun k => by
    rw [k.below.cell (p := ⟨w.heap.size, 1, none⟩) (by rw [hsz]; simp), hw1, World.cell?_alloc_at _ _ _ _ rfl]; rfl
  have hs2 := hs1.more (B' := w1.heap.size) (by omega)
  have hst : ∀ k : Later w1.heap.size w1, Sem.run Try.prog (convert 22 9 (.slice A l.length c)) k.val = .ok (.string (str l)) k.val := fun k =>
    run_str k.val _ _ _ _ Try.underlying22 Try.underlying5 Try.underlying9 A l.length c l rfl (hs2.below k.below)
  clear hw1 hsz hs hs1
  refine wp_region_later w1.heap.size (by kernel_rfl) (by kernel_rfl) ?_
  repeat (go_big_quiet_step (first
    | (go_at_call 34; exact later_same _ (of_any _ _ _ l _ _ rfl (hs2.below (Later.below _)) (by simp [maxLen]; omega)))
    | (go_at_call 35; exact later_same _ (ref_of l (by simp [maxLen]; omega) _))
    | (go_at_call 36; exact later_same _ (join_out a0 a1 n (Or.inl hn) _))
    | (go_at_call 37; exact later_same _ (ref_join_out a0 a1 n (Or.inl hn) _))
    | (go_at_call 33; exact later_own _ (Nat.le_refl _) (sum_awake _))))
  refine wpQuiet_nil ?_
  rintro _ ⟨⟨w2, hb2⟩, rfl⟩
  go_wp2
  go_ret
  exact ⟨rfl, hb1.trans (hb2.mono hb1.size)⟩

set_option maxHeartbeats 800000 in
theorem walk_tells_far (A : Option Addr) (c : Nat) (l : List UInt8) (a0 a1 : W) (n : Int) (w : World) (hs : Sees w w.heap.size A (bvs l)) (h1 : l.length ≤ 2000) (hn : 1048576 < n) :
    Calls Try.prog 6 #[.slice A l.length c, .agg #[.int .u32 (a0.toNat : Int), .int .u32 (a1.toNat : Int)], .int .i64 n] w
      fun e w' => e = .returned (.bool true) ∧ Below w.heap.size w w' := by
  have hs1 := hs.alloc (Nat.le_refl _) (.cells #[.int .u32 (a0.toNat : Int), .int .u32 (a1.toNat : Int)] 47)
  go_enter Try.func6, Try.ntmps6
  go_wp2
  obtain ⟨w1, hw1⟩ : ∃ w1, w1 = w.alloc (.cells #[.int .u32 (a0.toNat : Int), .int .u32 (a1.toNat : Int)] 47) := ⟨_, rfl⟩
  rw [← hw1] at hs1 ⊢
  have hsz : w1.heap.size = w.heap.size + 1 := by rw [hw1]; simp
  have hb1 : Below w.heap.size w w1 := by rw [hw1]; exact (Below.refl _ _).alloc (Nat.le_refl _) _
  have hc0 : ∀ k : Later w1.heap.size w1, k.val.cell? ⟨w.heap.size, 0, none⟩ = some (.int .u32 (a0.toNat : Int)) := fun k => by
    rw [k.below.cell (p := ⟨w.heap.size, 0, none⟩) (by rw [hsz]; simp), hw1, World.cell?_alloc_at _ _ _ _ rfl]; rfl
  have hc1 : ∀ k : Later w1.heap.size w1, k.val.cell? ⟨w.heap.size, 1, none⟩ = some (.int .u32 (a1.toNat : Int)) := fun k => by
    rw [k.below.cell (p := ⟨w.heap.size, 1, none⟩) (by rw [hsz]; simp), hw1, World.cell?_alloc_at _ _ _ _ rfl]; rfl
  have hs2 := hs1.more (B' := w1.heap.size) (by omega)
  have hst : ∀ k : Later w1.heap.size w1, Sem.run Try.prog (convert 22 9 (.slice A l.length c)) k.val = .ok (.string (str l)) k.val := fun k =>
    run_str k.val _ _ _ _ Try.underlying22 Try.underlying5 Try.underlying9 A l.length c l rfl (hs2.below k.below)
  clear hw1 hsz hs hs1
  refine wp_region_later w1.heap.size (by kernel_rfl) (by kernel_rfl) ?_
  repeat (go_big_quiet_step (first
    | (go_at_call 34; exact later_same _ (of_any _ _ _ l _ _ rfl (hs2.below (Later.below _)) (by simp [maxLen]; omega)))
    | (go_at_call 35; exact later_same _ (ref_of l (by simp [maxLen]; omega) _))
    | (go_at_call 36; exact later_same _ (join_out a0 a1 n (Or.inr hn) _))
    | (go_at_call 37; exact later_same _ (ref_join_out a0 a1 n (Or.inr hn) _))
    | (go_at_call 33; exact later_own _ (Nat.le_refl _) (sum_awake _))))
  refine wpQuiet_nil ?_
  rintro _ ⟨⟨w2, hb2⟩, rfl⟩
  go_wp2
  go_ret
  exact ⟨rfl, hb1.trans (hb2.mono hb1.size)⟩

theorem walk_tells (A : Option Addr) (c : Nat) (l : List UInt8) (a0 a1 : W) (n : Int) (w : World) (hs : Sees w w.heap.size A (bvs l)) (hm : l.length ≤ maxLen) :
    Calls Try.prog 6 #[.slice A l.length c, .agg #[.int .u32 (a0.toNat : Int), .int .u32 (a1.toNat : Int)], .int .i64 n] w
      fun e w' => e = .returned (.bool true) ∧ Below w.heap.size w w' := by
  unfold maxLen at hm
  by_cases h1 : l.length ≤ 2000
  · by_cases h2 : n < 0
    · exact walk_tells_neg A c l a0 a1 n w hs h1 h2
    · by_cases h3 : 1048576 < n
      · exact walk_tells_far A c l a0 a1 n w hs h1 h3
      · by_cases h4 : 5000 < n
        · go_enter Try.func6, Try.ntmps6
          go_wp2_with fail
          refine (sum_awake _).mono ?_
          rintro e w' ⟨rfl, hbel⟩
          go_wp2
          go_ret
          exact ⟨rfl, ((Below.refl _ _).alloc (Nat.le_refl _) _).trans (hbel.mono (by simp))⟩
        · obtain ⟨m, rfl⟩ : ∃ m : Nat, n = m := ⟨n.toNat, by omega⟩
          exact walk_tells_in A c l a0 a1 m w hs h1 (by omega)
  · have h1' : (2000 : Int) < l.length := by omega
    go_enter Try.func6, Try.ntmps6
    go_wp2_with fail
    refine (sum_awake _).mono ?_
    rintro e w' ⟨rfl, hbel⟩
    go_wp2
    go_ret
    exact ⟨rfl, ((Below.refl _ _).alloc (Nat.le_refl _) _).trans (hbel.mono (by simp))⟩

theorem two_of {zs : List Int} (h : zs.length = 2) : ∃ z0 z1, zs = [z0, z1] := by
  match zs, h with
  | [z0, z1], _ => exact ⟨z0, z1, rfl⟩
set_option maxRecDepth 100000 in
theorem tells_lifted (os : Os) (started : os.Started) (H : Type) (enc : TypeId × Value → H) :
    ReturnsInHanded {} Try.checked os 6 .any (Rows.sumTellsSpec.pre6 enc Try.prog Try.f6 Rows.sumTellsRow.domain false)
      (Rows.sumTellsSpec.post enc Try.prog Try.f6 false true false false) := by
  refine returnsInHanded_of_change (C := Try.checked) own started (by kernel_rfl) Try.func6
    (ChangeSpec.witness6 (enc := enc) (C := Try.checked) false ⟨#[], #[.slice none 0 0, .agg #[.int .u32 0, .int .u32 0], .int .i64 0], []⟩ 8 (by kernel_rfl) (by kernel_rfl) (by kernel_rfl) (by kernel_rfl)) ?_
  intro W base args ds gs before hval hW _ _
  have hW' := hW
  obtain ⟨p, q, hA, hV, rfl, hfz, hnd⟩ := hW
  rw [Try.params6] at hA hval
  obtain ⟨v0, vs0, d0, ds0, p0, q0, hargs, rfl, rfl, h0, r0⟩ := trodAll_cons hA
  obtain ⟨v1, vs1, d1, ds1, p1, q1, rfl, rfl, rfl, h1, r1⟩ := trodAll_cons r0
  obtain ⟨v2, vs2, d2, ds2, p2, q2, rfl, rfl, rfl, h2, r2⟩ := trodAll_cons r1
  obtain ⟨rfl, rfl, rfl⟩ := trodAll_nil r2
  obtain rfl : args = #[v0, v1, v2] := by cases args; simp_all
  obtain ⟨A, n, c, l, rfl, hnc, hcm, rfl, hs⟩ := open_bytes Try.underlying22 Try.underlying5 (by kernel_rfl) (hval 0 22 v0 rfl rfl) h0
  obtain ⟨zs, rfl, hzl, hzw⟩ := open_array Try.underlying47 Try.underlying46 (by kernel_rfl) (by kernel_rfl) (hval 1 47 v1 rfl rfl) h1
  obtain ⟨a2, rfl, rfl, rfl, w2⟩ := open_int Try.underlying3 (hval 2 3 v2 rfl rfl) h2
  obtain ⟨z0, z1, rfl⟩ := two_of hzl
  obtain ⟨x0, rfl⟩ := u32_wf (hzw z0 (by simp))
  obtain ⟨x1, rfl⟩ := u32_wf (hzw z1 (by simp))
  refine (walk_tells A c l x0 x1 a2 W hs (by omega)).mono fun e W' ⟨he, hb⟩ => ?_
  subst he
  exact ⟨_, rfl, law_post laidOut (by intro t ht; revert t ht; decide +kernel) rfl rfl boolT rfl hW' hb⟩

theorem SumTells_holds : Rows.SumTellsSaid :=
  OpenClaim.holds_of_wide 6 Try.f6 rfl rfl rfl rfl rfl rfl rfl ⟨rfl, rfl, rfl, rfl, rfl⟩ rfl rfl rfl rfl rfl (by kernel_rfl) Try.func6 (by kernel_rfl)
    (of_decide_eq_true (by kernel_rfl)) (by unfold Func.isWrapper; first | (rw [if_pos (by decide +kernel)]; kernel_rfl) | (rw [if_neg (by decide +kernel)]; exact ⟨rfl, rfl⟩))
    (fun os started H enc _ => tells_lifted os started H enc)
end Go.Proofs.Ytgnkkbgphghioaa
