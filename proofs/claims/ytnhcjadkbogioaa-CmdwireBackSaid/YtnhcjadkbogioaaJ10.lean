/- Nodes: which may be: what the program's returns. -/
import Derived.Test.YtnhcjadkbogioaaJ9
set_option maxRecDepth 100000
set_option maxHeartbeats 3200000
namespace Go.Proofs.Ytnhcjadkbogioaa
set_option linter.unusedVariables false
set_option linter.unusedSimpArgs false
open Go Go.RowKit
theorem node_1 (m k z : Int) (s : ByteArray) (w : World) :
    Calls Try.prog 83 #[.agg #[.int .i64 1, .int .i64 m, .int .i64 k, .int .i64 z, .string s]] w fun e w' => e = .returned (.bool (nok (1, m, k, z, s))) ∧ Below w.heap.size w w' := by
  have HV := hid (fun wx : World => vcheck_any k z s wx)
  have HQ : Hid (∀ wx : World, (Op.equalIn 10000 24 (.agg #[.int .i64 k, .int .i64 z, .string s]) (.agg #[.int .i64 0, .int .i64 0, .string ⟨#[]⟩])).run Try.prog wx = .ok (decide ((k, z, s) = zv)) wx) := hid (fun wx => eq_val 9998 (k, z, s) zv wx)
  have B0 := Blk.new w [.int .i64 1, .int .i64 m, .int .i64 k, .int .i64 z, .string s] 76
  have hb0 := (Below.refl w.heap.size w).alloc (Nat.le_refl _) (.cells #[.int .i64 1, .int .i64 m, .int .i64 k, .int .i64 z, .string s] 76)
  have RP := B0.range 2 [.int .i64 k, .int .i64 z, .string s] rfl
  have hu := Try.underlying24
  obtain ⟨vb, hvb⟩ : ∃ b, b = vchk (k, z, s) := ⟨_, rfl⟩
  obtain ⟨zb, hzb⟩ : ∃ b, b = decide ((k, z, s) = zv) := ⟨_, rfl⟩
  have hvz := vchk_isz (v := (k, z, s))
  rw [← hvb] at HV hvz
  rw [← hzb] at HQ
  obtain ⟨b0, kb0⟩ : ∃ b, (m == 0) = b := ⟨_, rfl⟩
  have HR : Hid (nok (1, m, k, z, s) = (b0 && zb)) := hid (by unfold nok; rw [if_pos (by simp)]; rw [hzb, ← kb0]; by_cases h : m = 0 <;> simp [h])
  rw [HR.out]
  clear hvz hvb hzb HR
  go_enter Try.func83, Try.ntmps83
  go_wp2_with (first
    | (refine wpList_load_g (by rfl) 24 (.tmp 5) rfl w.heap.size 2 rfl [.int .i64 k, .int .i64 z, .string s] _ RP hu rfl info_val3 ?_)
    | (refine wpList_exec (by rfl) (.bool zb) (exec_eql 24 _ (.tmp 6) (.tmp 7) rfl _ _ rfl rfl guard_val zb (HQ.out _)) ?_)
    | (refine wpList_load_g (by rfl) 24 (.tmp 9) rfl w.heap.size 2 rfl [.int .i64 k, .int .i64 z, .string s] _ RP hu rfl info_val3 ?_)
    | fail)
  refine (HV.out _).mono ?_
  rintro e' w' ⟨rfl, hb⟩
  have B1 := B0.later hb
  have hb1 := hb0.trans (hb.mono hb0.size)
  have q0 := B1.cell (j := 0) rfl
  have q1 := B1.cell (j := 1) rfl
  have q2 := B1.cell (j := 2) rfl
  clear B0 hb0 RP hb B1
  cases b0
  · skip
    go_wp2_with fail
    go_ret
    exact ⟨by simp, hb1⟩
  · skip
    go_wp2_with fail
    go_ret
    exact ⟨by simp, hb1⟩
theorem node_2 (m k z : Int) (s : ByteArray) (w : World) :
    Calls Try.prog 83 #[.agg #[.int .i64 2, .int .i64 m, .int .i64 k, .int .i64 z, .string s]] w fun e w' => e = .returned (.bool (nok (2, m, k, z, s))) ∧ Below w.heap.size w w' := by
  have HV := hid (fun wx : World => vcheck_any k z s wx)
  have HQ : Hid (∀ wx : World, (Op.equalIn 10000 24 (.agg #[.int .i64 k, .int .i64 z, .string s]) (.agg #[.int .i64 0, .int .i64 0, .string ⟨#[]⟩])).run Try.prog wx = .ok (decide ((k, z, s) = zv)) wx) := hid (fun wx => eq_val 9998 (k, z, s) zv wx)
  have B0 := Blk.new w [.int .i64 2, .int .i64 m, .int .i64 k, .int .i64 z, .string s] 76
  have hb0 := (Below.refl w.heap.size w).alloc (Nat.le_refl _) (.cells #[.int .i64 2, .int .i64 m, .int .i64 k, .int .i64 z, .string s] 76)
  have RP := B0.range 2 [.int .i64 k, .int .i64 z, .string s] rfl
  have hu := Try.underlying24
  obtain ⟨vb, hvb⟩ : ∃ b, b = vchk (k, z, s) := ⟨_, rfl⟩
  obtain ⟨zb, hzb⟩ : ∃ b, b = decide ((k, z, s) = zv) := ⟨_, rfl⟩
  have hvz := vchk_isz (v := (k, z, s))
  rw [← hvb] at HV hvz
  rw [← hzb] at HQ
  obtain ⟨b0, kb0⟩ : ∃ b, (m == 0) = b := ⟨_, rfl⟩
  have HR : Hid (nok (2, m, k, z, s) = (b0 && zb)) := hid (by unfold nok; rw [if_pos (by simp)]; rw [hzb, ← kb0]; by_cases h : m = 0 <;> simp [h])
  rw [HR.out]
  clear hvz hvb hzb HR
  go_enter Try.func83, Try.ntmps83
  go_wp2_with (first
    | (refine wpList_load_g (by rfl) 24 (.tmp 5) rfl w.heap.size 2 rfl [.int .i64 k, .int .i64 z, .string s] _ RP hu rfl info_val3 ?_)
    | (refine wpList_exec (by rfl) (.bool zb) (exec_eql 24 _ (.tmp 6) (.tmp 7) rfl _ _ rfl rfl guard_val zb (HQ.out _)) ?_)
    | (refine wpList_load_g (by rfl) 24 (.tmp 9) rfl w.heap.size 2 rfl [.int .i64 k, .int .i64 z, .string s] _ RP hu rfl info_val3 ?_)
    | fail)
  refine (HV.out _).mono ?_
  rintro e' w' ⟨rfl, hb⟩
  have B1 := B0.later hb
  have hb1 := hb0.trans (hb.mono hb0.size)
  have q0 := B1.cell (j := 0) rfl
  have q1 := B1.cell (j := 1) rfl
  have q2 := B1.cell (j := 2) rfl
  clear B0 hb0 RP hb B1
  cases b0
  · skip
    go_wp2_with fail
    go_ret
    exact ⟨by simp, hb1⟩
  · skip
    go_wp2_with fail
    go_ret
    exact ⟨by simp, hb1⟩
theorem node_3 (m k z : Int) (s : ByteArray) (w : World) :
    Calls Try.prog 83 #[.agg #[.int .i64 3, .int .i64 m, .int .i64 k, .int .i64 z, .string s]] w fun e w' => e = .returned (.bool (nok (3, m, k, z, s))) ∧ Below w.heap.size w w' := by
  have HV := hid (fun wx : World => vcheck_any k z s wx)
  have HQ : Hid (∀ wx : World, (Op.equalIn 10000 24 (.agg #[.int .i64 k, .int .i64 z, .string s]) (.agg #[.int .i64 0, .int .i64 0, .string ⟨#[]⟩])).run Try.prog wx = .ok (decide ((k, z, s) = zv)) wx) := hid (fun wx => eq_val 9998 (k, z, s) zv wx)
  have B0 := Blk.new w [.int .i64 3, .int .i64 m, .int .i64 k, .int .i64 z, .string s] 76
  have hb0 := (Below.refl w.heap.size w).alloc (Nat.le_refl _) (.cells #[.int .i64 3, .int .i64 m, .int .i64 k, .int .i64 z, .string s] 76)
  have RP := B0.range 2 [.int .i64 k, .int .i64 z, .string s] rfl
  have hu := Try.underlying24
  obtain ⟨vb, hvb⟩ : ∃ b, b = vchk (k, z, s) := ⟨_, rfl⟩
  obtain ⟨zb, hzb⟩ : ∃ b, b = decide ((k, z, s) = zv) := ⟨_, rfl⟩
  have hvz := vchk_isz (v := (k, z, s))
  rw [← hvb] at HV hvz
  rw [← hzb] at HQ
  obtain ⟨g0, kg0⟩ : ∃ b, decide (0 ≤ m) = b := ⟨_, rfl⟩
  obtain ⟨g1, kg1⟩ : ∃ b, decide (m < 16) = b := ⟨_, rfl⟩
  have HR : Hid (nok (3, m, k, z, s) = (g0 && g1 && zb)) := hid (by unfold nok; rw [if_neg (by simp), if_pos (by simp)]; rw [hzb, ← kg0, ← kg1]; simp [Bool.and_assoc])
  rw [HR.out]
  clear hvz hvb hzb HR
  go_enter Try.func83, Try.ntmps83
  go_wp2_with (first
    | (refine wpList_load_g (by rfl) 24 (.tmp 5) rfl w.heap.size 2 rfl [.int .i64 k, .int .i64 z, .string s] _ RP hu rfl info_val3 ?_)
    | (refine wpList_exec (by rfl) (.bool zb) (exec_eql 24 _ (.tmp 6) (.tmp 7) rfl _ _ rfl rfl guard_val zb (HQ.out _)) ?_)
    | (refine wpList_load_g (by rfl) 24 (.tmp 9) rfl w.heap.size 2 rfl [.int .i64 k, .int .i64 z, .string s] _ RP hu rfl info_val3 ?_)
    | fail)
  refine (HV.out _).mono ?_
  rintro e' w' ⟨rfl, hb⟩
  have B1 := B0.later hb
  have hb1 := hb0.trans (hb.mono hb0.size)
  have q0 := B1.cell (j := 0) rfl
  have q1 := B1.cell (j := 1) rfl
  have q2 := B1.cell (j := 2) rfl
  clear B0 hb0 RP hb B1
  cases g0
  · skip
    go_wp2_with fail
    go_ret
    exact ⟨by simp, hb1⟩
  · skip
    cases g1
    · skip
      go_wp2_with fail
      go_ret
      exact ⟨by simp, hb1⟩
    · skip
      go_wp2_with fail
      go_ret
      exact ⟨by simp, hb1⟩
theorem node_4 (m k z : Int) (s : ByteArray) (w : World) :
    Calls Try.prog 83 #[.agg #[.int .i64 4, .int .i64 m, .int .i64 k, .int .i64 z, .string s]] w fun e w' => e = .returned (.bool (nok (4, m, k, z, s))) ∧ Below w.heap.size w w' := by
  have HV := hid (fun wx : World => vcheck_any k z s wx)
  have HQ : Hid (∀ wx : World, (Op.equalIn 10000 24 (.agg #[.int .i64 k, .int .i64 z, .string s]) (.agg #[.int .i64 0, .int .i64 0, .string ⟨#[]⟩])).run Try.prog wx = .ok (decide ((k, z, s) = zv)) wx) := hid (fun wx => eq_val 9998 (k, z, s) zv wx)
  have B0 := Blk.new w [.int .i64 4, .int .i64 m, .int .i64 k, .int .i64 z, .string s] 76
  have hb0 := (Below.refl w.heap.size w).alloc (Nat.le_refl _) (.cells #[.int .i64 4, .int .i64 m, .int .i64 k, .int .i64 z, .string s] 76)
  have RP := B0.range 2 [.int .i64 k, .int .i64 z, .string s] rfl
  have hu := Try.underlying24
  obtain ⟨vb, hvb⟩ : ∃ b, b = vchk (k, z, s) := ⟨_, rfl⟩
  obtain ⟨zb, hzb⟩ : ∃ b, b = decide ((k, z, s) = zv) := ⟨_, rfl⟩
  have hvz := vchk_isz (v := (k, z, s))
  rw [← hvb] at HV hvz
  rw [← hzb] at HQ
  obtain ⟨g0, kg0⟩ : ∃ b, decide (0 ≤ m) = b := ⟨_, rfl⟩
  obtain ⟨g1, kg1⟩ : ∃ b, decide (m < 16) = b := ⟨_, rfl⟩
  have HR : Hid (nok (4, m, k, z, s) = (g0 && g1 && zb)) := hid (by unfold nok; rw [if_neg (by simp), if_pos (by simp)]; rw [hzb, ← kg0, ← kg1]; simp [Bool.and_assoc])
  rw [HR.out]
  clear hvz hvb hzb HR
  go_enter Try.func83, Try.ntmps83
  go_wp2_with (first
    | (refine wpList_load_g (by rfl) 24 (.tmp 5) rfl w.heap.size 2 rfl [.int .i64 k, .int .i64 z, .string s] _ RP hu rfl info_val3 ?_)
    | (refine wpList_exec (by rfl) (.bool zb) (exec_eql 24 _ (.tmp 6) (.tmp 7) rfl _ _ rfl rfl guard_val zb (HQ.out _)) ?_)
    | (refine wpList_load_g (by rfl) 24 (.tmp 9) rfl w.heap.size 2 rfl [.int .i64 k, .int .i64 z, .string s] _ RP hu rfl info_val3 ?_)
    | fail)
  refine (HV.out _).mono ?_
  rintro e' w' ⟨rfl, hb⟩
  have B1 := B0.later hb
  have hb1 := hb0.trans (hb.mono hb0.size)
  have q0 := B1.cell (j := 0) rfl
  have q1 := B1.cell (j := 1) rfl
  have q2 := B1.cell (j := 2) rfl
  clear B0 hb0 RP hb B1
  cases g0
  · skip
    go_wp2_with fail
    go_ret
    exact ⟨by simp, hb1⟩
  · skip
    cases g1
    · skip
      go_wp2_with fail
      go_ret
      exact ⟨by simp, hb1⟩
    · skip
      go_wp2_with fail
      go_ret
      exact ⟨by simp, hb1⟩
theorem node_5 (m k z : Int) (s : ByteArray) (w : World) :
    Calls Try.prog 83 #[.agg #[.int .i64 5, .int .i64 m, .int .i64 k, .int .i64 z, .string s]] w fun e w' => e = .returned (.bool (nok (5, m, k, z, s))) ∧ Below w.heap.size w w' := by
  have HV := hid (fun wx : World => vcheck_any k z s wx)
  have HQ : Hid (∀ wx : World, (Op.equalIn 10000 24 (.agg #[.int .i64 k, .int .i64 z, .string s]) (.agg #[.int .i64 0, .int .i64 0, .string ⟨#[]⟩])).run Try.prog wx = .ok (decide ((k, z, s) = zv)) wx) := hid (fun wx => eq_val 9998 (k, z, s) zv wx)
  have B0 := Blk.new w [.int .i64 5, .int .i64 m, .int .i64 k, .int .i64 z, .string s] 76
  have hb0 := (Below.refl w.heap.size w).alloc (Nat.le_refl _) (.cells #[.int .i64 5, .int .i64 m, .int .i64 k, .int .i64 z, .string s] 76)
  have RP := B0.range 2 [.int .i64 k, .int .i64 z, .string s] rfl
  have hu := Try.underlying24
  obtain ⟨vb, hvb⟩ : ∃ b, b = vchk (k, z, s) := ⟨_, rfl⟩
  obtain ⟨zb, hzb⟩ : ∃ b, b = decide ((k, z, s) = zv) := ⟨_, rfl⟩
  have hvz := vchk_isz (v := (k, z, s))
  rw [← hvb] at HV hvz
  rw [← hzb] at HQ
  obtain ⟨g0, kg0⟩ : ∃ b, decide (0 ≤ m) = b := ⟨_, rfl⟩
  obtain ⟨g1, kg1⟩ : ∃ b, decide (m < 8) = b := ⟨_, rfl⟩
  have HR : Hid (nok (5, m, k, z, s) = (g0 && g1 && zb)) := hid (by unfold nok; rw [if_neg (by simp), if_neg (by simp), if_pos (by simp)]; rw [hzb, ← kg0, ← kg1]; simp [Bool.and_assoc])
  rw [HR.out]
  clear hvz hvb hzb HR
  go_enter Try.func83, Try.ntmps83
  go_wp2_with (first
    | (refine wpList_load_g (by rfl) 24 (.tmp 5) rfl w.heap.size 2 rfl [.int .i64 k, .int .i64 z, .string s] _ RP hu rfl info_val3 ?_)
    | (refine wpList_exec (by rfl) (.bool zb) (exec_eql 24 _ (.tmp 6) (.tmp 7) rfl _ _ rfl rfl guard_val zb (HQ.out _)) ?_)
    | (refine wpList_load_g (by rfl) 24 (.tmp 9) rfl w.heap.size 2 rfl [.int .i64 k, .int .i64 z, .string s] _ RP hu rfl info_val3 ?_)
    | fail)
  refine (HV.out _).mono ?_
  rintro e' w' ⟨rfl, hb⟩
  have B1 := B0.later hb
  have hb1 := hb0.trans (hb.mono hb0.size)
  have q0 := B1.cell (j := 0) rfl
  have q1 := B1.cell (j := 1) rfl
  have q2 := B1.cell (j := 2) rfl
  clear B0 hb0 RP hb B1
  cases zb
  · skip
    go_wp2_with fail
    go_ret
    exact ⟨by simp, hb1⟩
  · skip
    cases g0
    · skip
      go_wp2_with fail
      go_ret
      exact ⟨by simp, hb1⟩
    · skip
      go_wp2_with fail
      go_ret
      exact ⟨by simp, hb1⟩
theorem node_6 (m k z : Int) (s : ByteArray) (w : World) :
    Calls Try.prog 83 #[.agg #[.int .i64 6, .int .i64 m, .int .i64 k, .int .i64 z, .string s]] w fun e w' => e = .returned (.bool (nok (6, m, k, z, s))) ∧ Below w.heap.size w w' := by
  have HV := hid (fun wx : World => vcheck_any k z s wx)
  have HQ : Hid (∀ wx : World, (Op.equalIn 10000 24 (.agg #[.int .i64 k, .int .i64 z, .string s]) (.agg #[.int .i64 0, .int .i64 0, .string ⟨#[]⟩])).run Try.prog wx = .ok (decide ((k, z, s) = zv)) wx) := hid (fun wx => eq_val 9998 (k, z, s) zv wx)
  have B0 := Blk.new w [.int .i64 6, .int .i64 m, .int .i64 k, .int .i64 z, .string s] 76
  have hb0 := (Below.refl w.heap.size w).alloc (Nat.le_refl _) (.cells #[.int .i64 6, .int .i64 m, .int .i64 k, .int .i64 z, .string s] 76)
  have RP := B0.range 2 [.int .i64 k, .int .i64 z, .string s] rfl
  have hu := Try.underlying24
  obtain ⟨vb, hvb⟩ : ∃ b, b = vchk (k, z, s) := ⟨_, rfl⟩
  obtain ⟨zb, hzb⟩ : ∃ b, b = decide ((k, z, s) = zv) := ⟨_, rfl⟩
  have hvz := vchk_isz (v := (k, z, s))
  rw [← hvb] at HV hvz
  rw [← hzb] at HQ
  obtain ⟨g0, kg0⟩ : ∃ b, decide (0 ≤ m) = b := ⟨_, rfl⟩
  obtain ⟨g1, kg1⟩ : ∃ b, decide (m < 8) = b := ⟨_, rfl⟩
  obtain ⟨kb, kkb⟩ : ∃ b, (k != 0) = b := ⟨_, rfl⟩
  have HR : Hid (nok (6, m, k, z, s) = (g0 && g1 && vb && kb)) := hid (by unfold nok; rw [if_neg (by simp), if_neg (by simp), if_neg (by simp), if_pos (by simp)]; rw [← kkb, ← kg0, ← kg1, hvb]; rw [Bool.eq_iff_iff]; simp only [Bool.and_eq_true, decide_eq_true_eq, bne_iff_ne]; exact ⟨fun ⟨h1, h2, h3, h4⟩ => ⟨⟨⟨h1, h2⟩, h3⟩, fun h => h4 ((hvz (hvb.trans h3)).1 h)⟩, fun ⟨⟨⟨h1, h2⟩, h3⟩, h4⟩ => ⟨h1, h2, h3, fun h => h4 ((hvz (hvb.trans h3)).2 h)⟩⟩)
  rw [HR.out]
  clear hvz hvb hzb HR
  go_enter Try.func83, Try.ntmps83
  go_wp2_with (first
    | (refine wpList_load_g (by rfl) 24 (.tmp 5) rfl w.heap.size 2 rfl [.int .i64 k, .int .i64 z, .string s] _ RP hu rfl info_val3 ?_)
    | (refine wpList_exec (by rfl) (.bool zb) (exec_eql 24 _ (.tmp 6) (.tmp 7) rfl _ _ rfl rfl guard_val zb (HQ.out _)) ?_)
    | (refine wpList_load_g (by rfl) 24 (.tmp 9) rfl w.heap.size 2 rfl [.int .i64 k, .int .i64 z, .string s] _ RP hu rfl info_val3 ?_)
    | fail)
  refine (HV.out _).mono ?_
  rintro e' w' ⟨rfl, hb⟩
  have B1 := B0.later hb
  have hb1 := hb0.trans (hb.mono hb0.size)
  have q0 := B1.cell (j := 0) rfl
  have q1 := B1.cell (j := 1) rfl
  have q2 := B1.cell (j := 2) rfl
  clear B0 hb0 RP hb B1
  cases vb
  · skip
    go_wp2_with fail
    go_ret
    exact ⟨by simp, hb1⟩
  · skip
    cases kb
    · skip
      go_wp2_with fail
      go_ret
      exact ⟨by simp, hb1⟩
    · skip
      cases g0
      · skip
        go_wp2_with fail
        go_ret
        exact ⟨by simp, hb1⟩
      · skip
        go_wp2_with fail
        go_ret
        exact ⟨by simp, hb1⟩
theorem node_7 (m k z : Int) (s : ByteArray) (w : World) :
    Calls Try.prog 83 #[.agg #[.int .i64 7, .int .i64 m, .int .i64 k, .int .i64 z, .string s]] w fun e w' => e = .returned (.bool (nok (7, m, k, z, s))) ∧ Below w.heap.size w w' := by
  have HV := hid (fun wx : World => vcheck_any k z s wx)
  have HQ : Hid (∀ wx : World, (Op.equalIn 10000 24 (.agg #[.int .i64 k, .int .i64 z, .string s]) (.agg #[.int .i64 0, .int .i64 0, .string ⟨#[]⟩])).run Try.prog wx = .ok (decide ((k, z, s) = zv)) wx) := hid (fun wx => eq_val 9998 (k, z, s) zv wx)
  have B0 := Blk.new w [.int .i64 7, .int .i64 m, .int .i64 k, .int .i64 z, .string s] 76
  have hb0 := (Below.refl w.heap.size w).alloc (Nat.le_refl _) (.cells #[.int .i64 7, .int .i64 m, .int .i64 k, .int .i64 z, .string s] 76)
  have RP := B0.range 2 [.int .i64 k, .int .i64 z, .string s] rfl
  have hu := Try.underlying24
  obtain ⟨vb, hvb⟩ : ∃ b, b = vchk (k, z, s) := ⟨_, rfl⟩
  obtain ⟨zb, hzb⟩ : ∃ b, b = decide ((k, z, s) = zv) := ⟨_, rfl⟩
  have hvz := vchk_isz (v := (k, z, s))
  rw [← hvb] at HV hvz
  rw [← hzb] at HQ
  obtain ⟨g0, kg0⟩ : ∃ b, decide (0 ≤ m) = b := ⟨_, rfl⟩
  obtain ⟨g1, kg1⟩ : ∃ b, decide (m < 8) = b := ⟨_, rfl⟩
  obtain ⟨kb, kkb⟩ : ∃ b, (k != 0) = b := ⟨_, rfl⟩
  have HR : Hid (nok (7, m, k, z, s) = (g0 && g1 && vb && kb)) := hid (by unfold nok; rw [if_neg (by simp), if_neg (by simp), if_neg (by simp), if_pos (by simp)]; rw [← kkb, ← kg0, ← kg1, hvb]; rw [Bool.eq_iff_iff]; simp only [Bool.and_eq_true, decide_eq_true_eq, bne_iff_ne]; exact ⟨fun ⟨h1, h2, h3, h4⟩ => ⟨⟨⟨h1, h2⟩, h3⟩, fun h => h4 ((hvz (hvb.trans h3)).1 h)⟩, fun ⟨⟨⟨h1, h2⟩, h3⟩, h4⟩ => ⟨h1, h2, h3, fun h => h4 ((hvz (hvb.trans h3)).2 h)⟩⟩)
  rw [HR.out]
  clear hvz hvb hzb HR
  go_enter Try.func83, Try.ntmps83
  go_wp2_with (first
    | (refine wpList_load_g (by rfl) 24 (.tmp 5) rfl w.heap.size 2 rfl [.int .i64 k, .int .i64 z, .string s] _ RP hu rfl info_val3 ?_)
    | (refine wpList_exec (by rfl) (.bool zb) (exec_eql 24 _ (.tmp 6) (.tmp 7) rfl _ _ rfl rfl guard_val zb (HQ.out _)) ?_)
    | (refine wpList_load_g (by rfl) 24 (.tmp 9) rfl w.heap.size 2 rfl [.int .i64 k, .int .i64 z, .string s] _ RP hu rfl info_val3 ?_)
    | fail)
  refine (HV.out _).mono ?_
  rintro e' w' ⟨rfl, hb⟩
  have B1 := B0.later hb
  have hb1 := hb0.trans (hb.mono hb0.size)
  have q0 := B1.cell (j := 0) rfl
  have q1 := B1.cell (j := 1) rfl
  have q2 := B1.cell (j := 2) rfl
  clear B0 hb0 RP hb B1
  cases vb
  · skip
    go_wp2_with fail
    go_ret
    exact ⟨by simp, hb1⟩
  · skip
    cases kb
    · skip
      go_wp2_with fail
      go_ret
      exact ⟨by simp, hb1⟩
    · skip
      cases g0
      · skip
        go_wp2_with fail
        go_ret
        exact ⟨by simp, hb1⟩
      · skip
        go_wp2_with fail
        go_ret
        exact ⟨by simp, hb1⟩
theorem node_8 (m k z : Int) (s : ByteArray) (w : World) :
    Calls Try.prog 83 #[.agg #[.int .i64 8, .int .i64 m, .int .i64 k, .int .i64 z, .string s]] w fun e w' => e = .returned (.bool (nok (8, m, k, z, s))) ∧ Below w.heap.size w w' := by
  have HV := hid (fun wx : World => vcheck_any k z s wx)
  have HQ : Hid (∀ wx : World, (Op.equalIn 10000 24 (.agg #[.int .i64 k, .int .i64 z, .string s]) (.agg #[.int .i64 0, .int .i64 0, .string ⟨#[]⟩])).run Try.prog wx = .ok (decide ((k, z, s) = zv)) wx) := hid (fun wx => eq_val 9998 (k, z, s) zv wx)
  have B0 := Blk.new w [.int .i64 8, .int .i64 m, .int .i64 k, .int .i64 z, .string s] 76
  have hb0 := (Below.refl w.heap.size w).alloc (Nat.le_refl _) (.cells #[.int .i64 8, .int .i64 m, .int .i64 k, .int .i64 z, .string s] 76)
  have RP := B0.range 2 [.int .i64 k, .int .i64 z, .string s] rfl
  have hu := Try.underlying24
  obtain ⟨vb, hvb⟩ : ∃ b, b = vchk (k, z, s) := ⟨_, rfl⟩
  obtain ⟨zb, hzb⟩ : ∃ b, b = decide ((k, z, s) = zv) := ⟨_, rfl⟩
  have hvz := vchk_isz (v := (k, z, s))
  rw [← hvb] at HV hvz
  rw [← hzb] at HQ
  obtain ⟨g0, kg0⟩ : ∃ b, decide (0 ≤ m) = b := ⟨_, rfl⟩
  obtain ⟨g1, kg1⟩ : ∃ b, decide (m < 8) = b := ⟨_, rfl⟩
  obtain ⟨kb, kkb⟩ : ∃ b, (k != 0) = b := ⟨_, rfl⟩
  have HR : Hid (nok (8, m, k, z, s) = (g0 && g1 && vb && kb)) := hid (by unfold nok; rw [if_neg (by simp), if_neg (by simp), if_neg (by simp), if_pos (by simp)]; rw [← kkb, ← kg0, ← kg1, hvb]; rw [Bool.eq_iff_iff]; simp only [Bool.and_eq_true, decide_eq_true_eq, bne_iff_ne]; exact ⟨fun ⟨h1, h2, h3, h4⟩ => ⟨⟨⟨h1, h2⟩, h3⟩, fun h => h4 ((hvz (hvb.trans h3)).1 h)⟩, fun ⟨⟨⟨h1, h2⟩, h3⟩, h4⟩ => ⟨h1, h2, h3, fun h => h4 ((hvz (hvb.trans h3)).2 h)⟩⟩)
  rw [HR.out]
  clear hvz hvb hzb HR
  go_enter Try.func83, Try.ntmps83
  go_wp2_with (first
    | (refine wpList_load_g (by rfl) 24 (.tmp 5) rfl w.heap.size 2 rfl [.int .i64 k, .int .i64 z, .string s] _ RP hu rfl info_val3 ?_)
    | (refine wpList_exec (by rfl) (.bool zb) (exec_eql 24 _ (.tmp 6) (.tmp 7) rfl _ _ rfl rfl guard_val zb (HQ.out _)) ?_)
    | (refine wpList_load_g (by rfl) 24 (.tmp 9) rfl w.heap.size 2 rfl [.int .i64 k, .int .i64 z, .string s] _ RP hu rfl info_val3 ?_)
    | fail)
  refine (HV.out _).mono ?_
  rintro e' w' ⟨rfl, hb⟩
  have B1 := B0.later hb
  have hb1 := hb0.trans (hb.mono hb0.size)
  have q0 := B1.cell (j := 0) rfl
  have q1 := B1.cell (j := 1) rfl
  have q2 := B1.cell (j := 2) rfl
  clear B0 hb0 RP hb B1
  cases vb
  · skip
    go_wp2_with fail
    go_ret
    exact ⟨by simp, hb1⟩
  · skip
    cases kb
    · skip
      go_wp2_with fail
      go_ret
      exact ⟨by simp, hb1⟩
    · skip
      cases g0
      · skip
        go_wp2_with fail
        go_ret
        exact ⟨by simp, hb1⟩
      · skip
        go_wp2_with fail
        go_ret
        exact ⟨by simp, hb1⟩
theorem node_9 (m k z : Int) (s : ByteArray) (w : World) :
    Calls Try.prog 83 #[.agg #[.int .i64 9, .int .i64 m, .int .i64 k, .int .i64 z, .string s]] w fun e w' => e = .returned (.bool (nok (9, m, k, z, s))) ∧ Below w.heap.size w w' := by
  have HV := hid (fun wx : World => vcheck_any k z s wx)
  have HQ : Hid (∀ wx : World, (Op.equalIn 10000 24 (.agg #[.int .i64 k, .int .i64 z, .string s]) (.agg #[.int .i64 0, .int .i64 0, .string ⟨#[]⟩])).run Try.prog wx = .ok (decide ((k, z, s) = zv)) wx) := hid (fun wx => eq_val 9998 (k, z, s) zv wx)
  have B0 := Blk.new w [.int .i64 9, .int .i64 m, .int .i64 k, .int .i64 z, .string s] 76
  have hb0 := (Below.refl w.heap.size w).alloc (Nat.le_refl _) (.cells #[.int .i64 9, .int .i64 m, .int .i64 k, .int .i64 z, .string s] 76)
  have RP := B0.range 2 [.int .i64 k, .int .i64 z, .string s] rfl
  have hu := Try.underlying24
  obtain ⟨vb, hvb⟩ : ∃ b, b = vchk (k, z, s) := ⟨_, rfl⟩
  obtain ⟨zb, hzb⟩ : ∃ b, b = decide ((k, z, s) = zv) := ⟨_, rfl⟩
  have hvz := vchk_isz (v := (k, z, s))
  rw [← hvb] at HV hvz
  rw [← hzb] at HQ
  obtain ⟨g0, kg0⟩ : ∃ b, decide (0 ≤ m) = b := ⟨_, rfl⟩
  obtain ⟨g1, kg1⟩ : ∃ b, decide (m < 8) = b := ⟨_, rfl⟩
  obtain ⟨kb, kkb⟩ : ∃ b, (k == 2) = b := ⟨_, rfl⟩
  have HR : Hid (nok (9, m, k, z, s) = (g0 && g1 && vb && kb)) := hid (by unfold nok; rw [if_neg (by simp), if_neg (by simp), if_neg (by simp), if_neg (by simp), if_pos (by simp)]; rw [← kkb, ← kg0, ← kg1, hvb]; rw [Bool.eq_iff_iff]; simp [and_assoc])
  rw [HR.out]
  clear hvz hvb hzb HR
  go_enter Try.func83, Try.ntmps83
  go_wp2_with (first
    | (refine wpList_load_g (by rfl) 24 (.tmp 5) rfl w.heap.size 2 rfl [.int .i64 k, .int .i64 z, .string s] _ RP hu rfl info_val3 ?_)
    | (refine wpList_exec (by rfl) (.bool zb) (exec_eql 24 _ (.tmp 6) (.tmp 7) rfl _ _ rfl rfl guard_val zb (HQ.out _)) ?_)
    | (refine wpList_load_g (by rfl) 24 (.tmp 9) rfl w.heap.size 2 rfl [.int .i64 k, .int .i64 z, .string s] _ RP hu rfl info_val3 ?_)
    | fail)
  refine (HV.out _).mono ?_
  rintro e' w' ⟨rfl, hb⟩
  have B1 := B0.later hb
  have hb1 := hb0.trans (hb.mono hb0.size)
  have q0 := B1.cell (j := 0) rfl
  have q1 := B1.cell (j := 1) rfl
  have q2 := B1.cell (j := 2) rfl
  clear B0 hb0 RP hb B1
  cases vb
  · skip
    go_wp2_with fail
    go_ret
    exact ⟨by simp, hb1⟩
  · skip
    cases kb
    · skip
      go_wp2_with fail
      go_ret
      exact ⟨by simp, hb1⟩
    · skip
      cases g0
      · skip
        go_wp2_with fail
        go_ret
        exact ⟨by simp, hb1⟩
      · skip
        go_wp2_with fail
        go_ret
        exact ⟨by simp, hb1⟩
theorem node_10 (m k z : Int) (s : ByteArray) (w : World) :
    Calls Try.prog 83 #[.agg #[.int .i64 10, .int .i64 m, .int .i64 k, .int .i64 z, .string s]] w fun e w' => e = .returned (.bool (nok (10, m, k, z, s))) ∧ Below w.heap.size w w' := by
  have HV := hid (fun wx : World => vcheck_any k z s wx)
  have HQ : Hid (∀ wx : World, (Op.equalIn 10000 24 (.agg #[.int .i64 k, .int .i64 z, .string s]) (.agg #[.int .i64 0, .int .i64 0, .string ⟨#[]⟩])).run Try.prog wx = .ok (decide ((k, z, s) = zv)) wx) := hid (fun wx => eq_val 9998 (k, z, s) zv wx)
  have B0 := Blk.new w [.int .i64 10, .int .i64 m, .int .i64 k, .int .i64 z, .string s] 76
  have hb0 := (Below.refl w.heap.size w).alloc (Nat.le_refl _) (.cells #[.int .i64 10, .int .i64 m, .int .i64 k, .int .i64 z, .string s] 76)
  have RP := B0.range 2 [.int .i64 k, .int .i64 z, .string s] rfl
  have hu := Try.underlying24
  obtain ⟨vb, hvb⟩ : ∃ b, b = vchk (k, z, s) := ⟨_, rfl⟩
  obtain ⟨zb, hzb⟩ : ∃ b, b = decide ((k, z, s) = zv) := ⟨_, rfl⟩
  have hvz := vchk_isz (v := (k, z, s))
  rw [← hvb] at HV hvz
  rw [← hzb] at HQ
  obtain ⟨b0, kb0⟩ : ∃ b, (m == 0) = b := ⟨_, rfl⟩
  have HR : Hid (nok (10, m, k, z, s) = (b0 && zb)) := hid (by unfold nok; rw [if_pos (by simp)]; rw [hzb, ← kb0]; by_cases h : m = 0 <;> simp [h])
  rw [HR.out]
  clear hvz hvb hzb HR
  go_enter Try.func83, Try.ntmps83
  go_wp2_with (first
    | (refine wpList_load_g (by rfl) 24 (.tmp 5) rfl w.heap.size 2 rfl [.int .i64 k, .int .i64 z, .string s] _ RP hu rfl info_val3 ?_)
    | (refine wpList_exec (by rfl) (.bool zb) (exec_eql 24 _ (.tmp 6) (.tmp 7) rfl _ _ rfl rfl guard_val zb (HQ.out _)) ?_)
    | (refine wpList_load_g (by rfl) 24 (.tmp 9) rfl w.heap.size 2 rfl [.int .i64 k, .int .i64 z, .string s] _ RP hu rfl info_val3 ?_)
    | fail)
  refine (HV.out _).mono ?_
  rintro e' w' ⟨rfl, hb⟩
  have B1 := B0.later hb
  have hb1 := hb0.trans (hb.mono hb0.size)
  have q0 := B1.cell (j := 0) rfl
  have q1 := B1.cell (j := 1) rfl
  have q2 := B1.cell (j := 2) rfl
  clear B0 hb0 RP hb B1
  cases b0
  · skip
    go_wp2_with fail
    go_ret
    exact ⟨by simp, hb1⟩
  · skip
    go_wp2_with fail
    go_ret
    exact ⟨by simp, hb1⟩
theorem node_11 (m k z : Int) (s : ByteArray) (w : World) :
    Calls Try.prog 83 #[.agg #[.int .i64 11, .int .i64 m, .int .i64 k, .int .i64 z, .string s]] w fun e w' => e = .returned (.bool (nok (11, m, k, z, s))) ∧ Below w.heap.size w w' := by
  have HV := hid (fun wx : World => vcheck_any k z s wx)
  have HQ : Hid (∀ wx : World, (Op.equalIn 10000 24 (.agg #[.int .i64 k, .int .i64 z, .string s]) (.agg #[.int .i64 0, .int .i64 0, .string ⟨#[]⟩])).run Try.prog wx = .ok (decide ((k, z, s) = zv)) wx) := hid (fun wx => eq_val 9998 (k, z, s) zv wx)
  have B0 := Blk.new w [.int .i64 11, .int .i64 m, .int .i64 k, .int .i64 z, .string s] 76
  have hb0 := (Below.refl w.heap.size w).alloc (Nat.le_refl _) (.cells #[.int .i64 11, .int .i64 m, .int .i64 k, .int .i64 z, .string s] 76)
  have RP := B0.range 2 [.int .i64 k, .int .i64 z, .string s] rfl
  have hu := Try.underlying24
  obtain ⟨vb, hvb⟩ : ∃ b, b = vchk (k, z, s) := ⟨_, rfl⟩
  obtain ⟨zb, hzb⟩ : ∃ b, b = decide ((k, z, s) = zv) := ⟨_, rfl⟩
  have hvz := vchk_isz (v := (k, z, s))
  rw [← hvb] at HV hvz
  rw [← hzb] at HQ
  obtain ⟨b0, kb0⟩ : ∃ b, (m == 0) = b := ⟨_, rfl⟩
  have HR : Hid (nok (11, m, k, z, s) = (b0 && zb)) := hid (by unfold nok; rw [if_pos (by simp)]; rw [hzb, ← kb0]; by_cases h : m = 0 <;> simp [h])
  rw [HR.out]
  clear hvz hvb hzb HR
  go_enter Try.func83, Try.ntmps83
  go_wp2_with (first
    | (refine wpList_load_g (by rfl) 24 (.tmp 5) rfl w.heap.size 2 rfl [.int .i64 k, .int .i64 z, .string s] _ RP hu rfl info_val3 ?_)
    | (refine wpList_exec (by rfl) (.bool zb) (exec_eql 24 _ (.tmp 6) (.tmp 7) rfl _ _ rfl rfl guard_val zb (HQ.out _)) ?_)
    | (refine wpList_load_g (by rfl) 24 (.tmp 9) rfl w.heap.size 2 rfl [.int .i64 k, .int .i64 z, .string s] _ RP hu rfl info_val3 ?_)
    | fail)
  refine (HV.out _).mono ?_
  rintro e' w' ⟨rfl, hb⟩
  have B1 := B0.later hb
  have hb1 := hb0.trans (hb.mono hb0.size)
  have q0 := B1.cell (j := 0) rfl
  have q1 := B1.cell (j := 1) rfl
  have q2 := B1.cell (j := 2) rfl
  clear B0 hb0 RP hb B1
  cases b0
  · skip
    go_wp2_with fail
    go_ret
    exact ⟨by simp, hb1⟩
  · skip
    go_wp2_with fail
    go_ret
    exact ⟨by simp, hb1⟩
theorem node_12 (m k z : Int) (s : ByteArray) (w : World) :
    Calls Try.prog 83 #[.agg #[.int .i64 12, .int .i64 m, .int .i64 k, .int .i64 z, .string s]] w fun e w' => e = .returned (.bool (nok (12, m, k, z, s))) ∧ Below w.heap.size w w' := by
  have HV := hid (fun wx : World => vcheck_any k z s wx)
  have HQ : Hid (∀ wx : World, (Op.equalIn 10000 24 (.agg #[.int .i64 k, .int .i64 z, .string s]) (.agg #[.int .i64 0, .int .i64 0, .string ⟨#[]⟩])).run Try.prog wx = .ok (decide ((k, z, s) = zv)) wx) := hid (fun wx => eq_val 9998 (k, z, s) zv wx)
  have B0 := Blk.new w [.int .i64 12, .int .i64 m, .int .i64 k, .int .i64 z, .string s] 76
  have hb0 := (Below.refl w.heap.size w).alloc (Nat.le_refl _) (.cells #[.int .i64 12, .int .i64 m, .int .i64 k, .int .i64 z, .string s] 76)
  have RP := B0.range 2 [.int .i64 k, .int .i64 z, .string s] rfl
  have hu := Try.underlying24
  obtain ⟨vb, hvb⟩ : ∃ b, b = vchk (k, z, s) := ⟨_, rfl⟩
  obtain ⟨zb, hzb⟩ : ∃ b, b = decide ((k, z, s) = zv) := ⟨_, rfl⟩
  have hvz := vchk_isz (v := (k, z, s))
  rw [← hvb] at HV hvz
  rw [← hzb] at HQ
  obtain ⟨b0, kb0⟩ : ∃ b, (m == 0) = b := ⟨_, rfl⟩
  have HR : Hid (nok (12, m, k, z, s) = (b0 && zb)) := hid (by unfold nok; rw [if_pos (by simp)]; rw [hzb, ← kb0]; by_cases h : m = 0 <;> simp [h])
  rw [HR.out]
  clear hvz hvb hzb HR
  go_enter Try.func83, Try.ntmps83
  go_wp2_with (first
    | (refine wpList_load_g (by rfl) 24 (.tmp 5) rfl w.heap.size 2 rfl [.int .i64 k, .int .i64 z, .string s] _ RP hu rfl info_val3 ?_)
    | (refine wpList_exec (by rfl) (.bool zb) (exec_eql 24 _ (.tmp 6) (.tmp 7) rfl _ _ rfl rfl guard_val zb (HQ.out _)) ?_)
    | (refine wpList_load_g (by rfl) 24 (.tmp 9) rfl w.heap.size 2 rfl [.int .i64 k, .int .i64 z, .string s] _ RP hu rfl info_val3 ?_)
    | fail)
  refine (HV.out _).mono ?_
  rintro e' w' ⟨rfl, hb⟩
  have B1 := B0.later hb
  have hb1 := hb0.trans (hb.mono hb0.size)
  have q0 := B1.cell (j := 0) rfl
  have q1 := B1.cell (j := 1) rfl
  have q2 := B1.cell (j := 2) rfl
  clear B0 hb0 RP hb B1
  cases b0
  · skip
    go_wp2_with fail
    go_ret
    exact ⟨by simp, hb1⟩
  · skip
    go_wp2_with fail
    go_ret
    exact ⟨by simp, hb1⟩
theorem node_op (op : Int) (m k z : Int) (s : ByteArray) (w : World) (h1 : op ≠ 1) (h2 : op ≠ 2) (h3 : op ≠ 3) (h4 : op ≠ 4) (h5 : op ≠ 5) (h6 : op ≠ 6) (h7 : op ≠ 7) (h8 : op ≠ 8) (h9 : op ≠ 9) (h10 : op ≠ 10) (h11 : op ≠ 11) (h12 : op ≠ 12) :
    Calls Try.prog 83 #[.agg #[.int .i64 op, .int .i64 m, .int .i64 k, .int .i64 z, .string s]] w fun e w' => e = .returned (.bool (nok (op, m, k, z, s))) ∧ Below w.heap.size w w' := by
  have HV := hid (fun wx : World => vcheck_any k z s wx)
  have HQ : Hid (∀ wx : World, (Op.equalIn 10000 24 (.agg #[.int .i64 k, .int .i64 z, .string s]) (.agg #[.int .i64 0, .int .i64 0, .string ⟨#[]⟩])).run Try.prog wx = .ok (decide ((k, z, s) = zv)) wx) := hid (fun wx => eq_val 9998 (k, z, s) zv wx)
  have B0 := Blk.new w [.int .i64 op, .int .i64 m, .int .i64 k, .int .i64 z, .string s] 76
  have hb0 := (Below.refl w.heap.size w).alloc (Nat.le_refl _) (.cells #[.int .i64 op, .int .i64 m, .int .i64 k, .int .i64 z, .string s] 76)
  have RP := B0.range 2 [.int .i64 k, .int .i64 z, .string s] rfl
  have hu := Try.underlying24
  obtain ⟨vb, hvb⟩ : ∃ b, b = vchk (k, z, s) := ⟨_, rfl⟩
  obtain ⟨zb, hzb⟩ : ∃ b, b = decide ((k, z, s) = zv) := ⟨_, rfl⟩
  have hvz := vchk_isz (v := (k, z, s))
  rw [← hvb] at HV hvz
  rw [← hzb] at HQ
  obtain ⟨g0, kg0⟩ : ∃ b, decide (0 ≤ m) = b := ⟨_, rfl⟩
  obtain ⟨g1, kg1⟩ : ∃ b, decide (m < 8) = b := ⟨_, rfl⟩
  have HR : Hid (nok (op, m, k, z, s) = false) := hid (by unfold nok; simp [h1, h2, h3, h4, h5, h6, h7, h8, h9, h10, h11, h12])
  rw [HR.out]
  have e1 : (op == 1) = false := by simpa using h1
  have e2 : (op == 2) = false := by simpa using h2
  have e3 : (op == 3) = false := by simpa using h3
  have e4 : (op == 4) = false := by simpa using h4
  have e5 : (op == 5) = false := by simpa using h5
  have e6 : (op == 6) = false := by simpa using h6
  have e7 : (op == 7) = false := by simpa using h7
  have e8 : (op == 8) = false := by simpa using h8
  have e9 : (op == 9) = false := by simpa using h9
  have e10 : (op == 10) = false := by simpa using h10
  have e11 : (op == 11) = false := by simpa using h11
  have e12 : (op == 12) = false := by simpa using h12
  clear h1 h2 h3 h4 h5 h6 h7 h8 h9 h10 h11 h12
  clear hvz hvb hzb HR
  go_enter Try.func83, Try.ntmps83
  go_wp2_with (first
    | (refine wpList_load_g (by rfl) 24 (.tmp 5) rfl w.heap.size 2 rfl [.int .i64 k, .int .i64 z, .string s] _ RP hu rfl info_val3 ?_)
    | (refine wpList_exec (by rfl) (.bool zb) (exec_eql 24 _ (.tmp 6) (.tmp 7) rfl _ _ rfl rfl guard_val zb (HQ.out _)) ?_)
    | (refine wpList_load_g (by rfl) 24 (.tmp 9) rfl w.heap.size 2 rfl [.int .i64 k, .int .i64 z, .string s] _ RP hu rfl info_val3 ?_)
    | fail)
  refine (HV.out _).mono ?_
  rintro e' w' ⟨rfl, hb⟩
  have B1 := B0.later hb
  have hb1 := hb0.trans (hb.mono hb0.size)
  have q0 := B1.cell (j := 0) rfl
  have q1 := B1.cell (j := 1) rfl
  have q2 := B1.cell (j := 2) rfl
  clear B0 hb0 RP hb B1
  go_wp2_with fail
  go_ret
  exact ⟨by simp, hb1⟩
theorem node_any (n : Nd) (w : World) : Calls Try.prog 83 #[.agg (ncells n).toArray] w fun e w' => e = .returned (.bool (nok n)) ∧ Below w.heap.size w w' := by
  obtain ⟨op, m, k, z, s⟩ := n
  by_cases h1 : op = 1
  · subst h1; exact node_1 m k z s w
  by_cases h2 : op = 2
  · subst h2; exact node_2 m k z s w
  by_cases h3 : op = 3
  · subst h3; exact node_3 m k z s w
  by_cases h4 : op = 4
  · subst h4; exact node_4 m k z s w
  by_cases h5 : op = 5
  · subst h5; exact node_5 m k z s w
  by_cases h6 : op = 6
  · subst h6; exact node_6 m k z s w
  by_cases h7 : op = 7
  · subst h7; exact node_7 m k z s w
  by_cases h8 : op = 8
  · subst h8; exact node_8 m k z s w
  by_cases h9 : op = 9
  · subst h9; exact node_9 m k z s w
  by_cases h10 : op = 10
  · subst h10; exact node_10 m k z s w
  by_cases h11 : op = 11
  · subst h11; exact node_11 m k z s w
  by_cases h12 : op = 12
  · subst h12; exact node_12 m k z s w
  exact node_op op m k z s w h1 h2 h3 h4 h5 h6 h7 h8 h9 h10 h11 h12
end Go.Proofs.Ytnhcjadkbogioaa
