/- Nodes: which may be: what the document's returns. -/
import Derived.Test.YtnhcjadkbogioaaGreatM10
set_option maxRecDepth 100000
set_option maxHeartbeats 3200000
namespace Go.Proofs.YtnhcjadkbogioaaGreat
set_option linter.unusedVariables false
set_option linter.unusedSimpArgs false
open Go Go.RowKit
theorem rnode_1 (m k z : Int) (s : ByteArray) (w : World) :
    Calls Tryz.prog 86 #[.agg #[.int .i64 1, .int .i64 m, .int .i64 k, .int .i64 z, .string s]] w fun e w' => e = .returned (.bool (nok (1, m, k, z, s))) ∧ Below w.heap.size w w' := by
  have HV := hid (fun wx : World => rvcheck_any k z s wx)
  have HQ : Hid (∀ wx : World, (Op.equalIn 10000 33 (.agg #[.int .i64 k, .int .i64 z, .string s]) (.agg #[.int .i64 0, .int .i64 0, .string ⟨#[]⟩])).run Tryz.prog wx = .ok (decide ((k, z, s) = zv)) wx) := hid (fun wx => eq_val 9998 (k, z, s) zv wx)
  have B0 := Blk.new w [.int .i64 1, .int .i64 m, .int .i64 k, .int .i64 z, .string s] 73
  have hb0 := (Below.refl w.heap.size w).alloc (Nat.le_refl _) (.cells #[.int .i64 1, .int .i64 m, .int .i64 k, .int .i64 z, .string s] 73)
  have RP := B0.range 2 [.int .i64 k, .int .i64 z, .string s] rfl
  have hu := Tryz.underlying33
  obtain ⟨vb, hvb⟩ : ∃ b, b = vchk (k, z, s) := ⟨_, rfl⟩
  obtain ⟨zb, hzb⟩ : ∃ b, b = decide ((k, z, s) = zv) := ⟨_, rfl⟩
  have hvz := vchk_isz (v := (k, z, s))
  rw [← hvb] at HV hvz
  rw [← hzb] at HQ
  obtain ⟨g0, kg0⟩ : ∃ b, decide (0 ≤ m) = b := ⟨_, rfl⟩
  obtain ⟨g1, kg1⟩ : ∃ b, decide (m < 8) = b := ⟨_, rfl⟩
  obtain ⟨b0, kb0⟩ : ∃ b, (m == 0) = b := ⟨_, rfl⟩
  have HR : Hid (nok (1, m, k, z, s) = (b0 && zb)) := hid (by unfold nok; rw [if_pos (by simp)]; rw [hzb, ← kb0]; by_cases h : m = 0 <;> simp [h])
  rw [HR.out]
  clear hvz hvb hzb HR
  go_enter Tryz.func86, Tryz.ntmps86
  cases b0
  · skip
    cases g0
    · go_wp2_with (first
        | (refine wpList_load_g (by rfl) 33 (.tmp 5) rfl w.heap.size 2 rfl [.int .i64 k, .int .i64 z, .string s] _ RP hu rfl info_val3 ?_)
        | (refine wpList_exec (by rfl) (.bool zb) (exec_eql 33 _ (.tmp 6) (.tmp 7) rfl _ _ rfl rfl guard_val zb (HQ.out _)) ?_)
        | fail)
      go_ret
      exact ⟨by simp, hb0⟩
    · cases g1
      · go_wp2_with (first
        | (refine wpList_load_g (by rfl) 33 (.tmp 5) rfl w.heap.size 2 rfl [.int .i64 k, .int .i64 z, .string s] _ RP hu rfl info_val3 ?_)
        | (refine wpList_exec (by rfl) (.bool zb) (exec_eql 33 _ (.tmp 6) (.tmp 7) rfl _ _ rfl rfl guard_val zb (HQ.out _)) ?_)
        | fail)
        go_ret
        exact ⟨by simp, hb0⟩
      · go_wp2_with (first
        | (refine wpList_load_g (by rfl) 33 (.tmp 5) rfl w.heap.size 2 rfl [.int .i64 k, .int .i64 z, .string s] _ RP hu rfl info_val3 ?_)
        | (refine wpList_exec (by rfl) (.bool zb) (exec_eql 33 _ (.tmp 6) (.tmp 7) rfl _ _ rfl rfl guard_val zb (HQ.out _)) ?_)
        | (refine wpList_load_g (by rfl) 33 (.tmp 18) rfl w.heap.size 2 rfl [.int .i64 k, .int .i64 z, .string s] _ RP hu rfl info_val3 ?_)
        | fail)
        refine (HV.out _).mono ?_
        rintro e' w' ⟨rfl, hb⟩
        have B1 := B0.later hb
        have hb1 := hb0.trans (hb.mono hb0.size)
        have q0 := B1.cell (j := 0) rfl
        have q1 := B1.cell (j := 1) rfl
        have q2 := B1.cell (j := 2) rfl
        clear B0 hb0 RP hb B1
        go_wp2_with fail
        go_ret
        exact ⟨by simp, hb1⟩
  · skip
    cases g0
    · go_wp2_with (first
        | (refine wpList_load_g (by rfl) 33 (.tmp 5) rfl w.heap.size 2 rfl [.int .i64 k, .int .i64 z, .string s] _ RP hu rfl info_val3 ?_)
        | (refine wpList_exec (by rfl) (.bool zb) (exec_eql 33 _ (.tmp 6) (.tmp 7) rfl _ _ rfl rfl guard_val zb (HQ.out _)) ?_)
        | fail)
      go_ret
      exact ⟨by simp, hb0⟩
    · cases g1
      · go_wp2_with (first
        | (refine wpList_load_g (by rfl) 33 (.tmp 5) rfl w.heap.size 2 rfl [.int .i64 k, .int .i64 z, .string s] _ RP hu rfl info_val3 ?_)
        | (refine wpList_exec (by rfl) (.bool zb) (exec_eql 33 _ (.tmp 6) (.tmp 7) rfl _ _ rfl rfl guard_val zb (HQ.out _)) ?_)
        | fail)
        go_ret
        exact ⟨by simp, hb0⟩
      · go_wp2_with (first
        | (refine wpList_load_g (by rfl) 33 (.tmp 5) rfl w.heap.size 2 rfl [.int .i64 k, .int .i64 z, .string s] _ RP hu rfl info_val3 ?_)
        | (refine wpList_exec (by rfl) (.bool zb) (exec_eql 33 _ (.tmp 6) (.tmp 7) rfl _ _ rfl rfl guard_val zb (HQ.out _)) ?_)
        | (refine wpList_load_g (by rfl) 33 (.tmp 18) rfl w.heap.size 2 rfl [.int .i64 k, .int .i64 z, .string s] _ RP hu rfl info_val3 ?_)
        | fail)
        refine (HV.out _).mono ?_
        rintro e' w' ⟨rfl, hb⟩
        have B1 := B0.later hb
        have hb1 := hb0.trans (hb.mono hb0.size)
        have q0 := B1.cell (j := 0) rfl
        have q1 := B1.cell (j := 1) rfl
        have q2 := B1.cell (j := 2) rfl
        clear B0 hb0 RP hb B1
        go_wp2_with fail
        go_ret
        exact ⟨by simp, hb1⟩
theorem rnode_2 (m k z : Int) (s : ByteArray) (w : World) :
    Calls Tryz.prog 86 #[.agg #[.int .i64 2, .int .i64 m, .int .i64 k, .int .i64 z, .string s]] w fun e w' => e = .returned (.bool (nok (2, m, k, z, s))) ∧ Below w.heap.size w w' := by
  have HV := hid (fun wx : World => rvcheck_any k z s wx)
  have HQ : Hid (∀ wx : World, (Op.equalIn 10000 33 (.agg #[.int .i64 k, .int .i64 z, .string s]) (.agg #[.int .i64 0, .int .i64 0, .string ⟨#[]⟩])).run Tryz.prog wx = .ok (decide ((k, z, s) = zv)) wx) := hid (fun wx => eq_val 9998 (k, z, s) zv wx)
  have B0 := Blk.new w [.int .i64 2, .int .i64 m, .int .i64 k, .int .i64 z, .string s] 73
  have hb0 := (Below.refl w.heap.size w).alloc (Nat.le_refl _) (.cells #[.int .i64 2, .int .i64 m, .int .i64 k, .int .i64 z, .string s] 73)
  have RP := B0.range 2 [.int .i64 k, .int .i64 z, .string s] rfl
  have hu := Tryz.underlying33
  obtain ⟨vb, hvb⟩ : ∃ b, b = vchk (k, z, s) := ⟨_, rfl⟩
  obtain ⟨zb, hzb⟩ : ∃ b, b = decide ((k, z, s) = zv) := ⟨_, rfl⟩
  have hvz := vchk_isz (v := (k, z, s))
  rw [← hvb] at HV hvz
  rw [← hzb] at HQ
  obtain ⟨g0, kg0⟩ : ∃ b, decide (0 ≤ m) = b := ⟨_, rfl⟩
  obtain ⟨g1, kg1⟩ : ∃ b, decide (m < 8) = b := ⟨_, rfl⟩
  obtain ⟨b0, kb0⟩ : ∃ b, (m == 0) = b := ⟨_, rfl⟩
  have HR : Hid (nok (2, m, k, z, s) = (b0 && zb)) := hid (by unfold nok; rw [if_pos (by simp)]; rw [hzb, ← kb0]; by_cases h : m = 0 <;> simp [h])
  rw [HR.out]
  clear hvz hvb hzb HR
  go_enter Tryz.func86, Tryz.ntmps86
  cases b0
  · skip
    cases g0
    · go_wp2_with (first
        | (refine wpList_load_g (by rfl) 33 (.tmp 5) rfl w.heap.size 2 rfl [.int .i64 k, .int .i64 z, .string s] _ RP hu rfl info_val3 ?_)
        | (refine wpList_exec (by rfl) (.bool zb) (exec_eql 33 _ (.tmp 6) (.tmp 7) rfl _ _ rfl rfl guard_val zb (HQ.out _)) ?_)
        | fail)
      go_ret
      exact ⟨by simp, hb0⟩
    · cases g1
      · go_wp2_with (first
        | (refine wpList_load_g (by rfl) 33 (.tmp 5) rfl w.heap.size 2 rfl [.int .i64 k, .int .i64 z, .string s] _ RP hu rfl info_val3 ?_)
        | (refine wpList_exec (by rfl) (.bool zb) (exec_eql 33 _ (.tmp 6) (.tmp 7) rfl _ _ rfl rfl guard_val zb (HQ.out _)) ?_)
        | fail)
        go_ret
        exact ⟨by simp, hb0⟩
      · go_wp2_with (first
        | (refine wpList_load_g (by rfl) 33 (.tmp 5) rfl w.heap.size 2 rfl [.int .i64 k, .int .i64 z, .string s] _ RP hu rfl info_val3 ?_)
        | (refine wpList_exec (by rfl) (.bool zb) (exec_eql 33 _ (.tmp 6) (.tmp 7) rfl _ _ rfl rfl guard_val zb (HQ.out _)) ?_)
        | (refine wpList_load_g (by rfl) 33 (.tmp 18) rfl w.heap.size 2 rfl [.int .i64 k, .int .i64 z, .string s] _ RP hu rfl info_val3 ?_)
        | fail)
        refine (HV.out _).mono ?_
        rintro e' w' ⟨rfl, hb⟩
        have B1 := B0.later hb
        have hb1 := hb0.trans (hb.mono hb0.size)
        have q0 := B1.cell (j := 0) rfl
        have q1 := B1.cell (j := 1) rfl
        have q2 := B1.cell (j := 2) rfl
        clear B0 hb0 RP hb B1
        go_wp2_with fail
        go_ret
        exact ⟨by simp, hb1⟩
  · skip
    cases g0
    · go_wp2_with (first
        | (refine wpList_load_g (by rfl) 33 (.tmp 5) rfl w.heap.size 2 rfl [.int .i64 k, .int .i64 z, .string s] _ RP hu rfl info_val3 ?_)
        | (refine wpList_exec (by rfl) (.bool zb) (exec_eql 33 _ (.tmp 6) (.tmp 7) rfl _ _ rfl rfl guard_val zb (HQ.out _)) ?_)
        | fail)
      go_ret
      exact ⟨by simp, hb0⟩
    · cases g1
      · go_wp2_with (first
        | (refine wpList_load_g (by rfl) 33 (.tmp 5) rfl w.heap.size 2 rfl [.int .i64 k, .int .i64 z, .string s] _ RP hu rfl info_val3 ?_)
        | (refine wpList_exec (by rfl) (.bool zb) (exec_eql 33 _ (.tmp 6) (.tmp 7) rfl _ _ rfl rfl guard_val zb (HQ.out _)) ?_)
        | fail)
        go_ret
        exact ⟨by simp, hb0⟩
      · go_wp2_with (first
        | (refine wpList_load_g (by rfl) 33 (.tmp 5) rfl w.heap.size 2 rfl [.int .i64 k, .int .i64 z, .string s] _ RP hu rfl info_val3 ?_)
        | (refine wpList_exec (by rfl) (.bool zb) (exec_eql 33 _ (.tmp 6) (.tmp 7) rfl _ _ rfl rfl guard_val zb (HQ.out _)) ?_)
        | (refine wpList_load_g (by rfl) 33 (.tmp 18) rfl w.heap.size 2 rfl [.int .i64 k, .int .i64 z, .string s] _ RP hu rfl info_val3 ?_)
        | fail)
        refine (HV.out _).mono ?_
        rintro e' w' ⟨rfl, hb⟩
        have B1 := B0.later hb
        have hb1 := hb0.trans (hb.mono hb0.size)
        have q0 := B1.cell (j := 0) rfl
        have q1 := B1.cell (j := 1) rfl
        have q2 := B1.cell (j := 2) rfl
        clear B0 hb0 RP hb B1
        go_wp2_with fail
        go_ret
        exact ⟨by simp, hb1⟩
theorem rnode_3 (m k z : Int) (s : ByteArray) (w : World) :
    Calls Tryz.prog 86 #[.agg #[.int .i64 3, .int .i64 m, .int .i64 k, .int .i64 z, .string s]] w fun e w' => e = .returned (.bool (nok (3, m, k, z, s))) ∧ Below w.heap.size w w' := by
  have HV := hid (fun wx : World => rvcheck_any k z s wx)
  have HQ : Hid (∀ wx : World, (Op.equalIn 10000 33 (.agg #[.int .i64 k, .int .i64 z, .string s]) (.agg #[.int .i64 0, .int .i64 0, .string ⟨#[]⟩])).run Tryz.prog wx = .ok (decide ((k, z, s) = zv)) wx) := hid (fun wx => eq_val 9998 (k, z, s) zv wx)
  have B0 := Blk.new w [.int .i64 3, .int .i64 m, .int .i64 k, .int .i64 z, .string s] 73
  have hb0 := (Below.refl w.heap.size w).alloc (Nat.le_refl _) (.cells #[.int .i64 3, .int .i64 m, .int .i64 k, .int .i64 z, .string s] 73)
  have RP := B0.range 2 [.int .i64 k, .int .i64 z, .string s] rfl
  have hu := Tryz.underlying33
  obtain ⟨vb, hvb⟩ : ∃ b, b = vchk (k, z, s) := ⟨_, rfl⟩
  obtain ⟨zb, hzb⟩ : ∃ b, b = decide ((k, z, s) = zv) := ⟨_, rfl⟩
  have hvz := vchk_isz (v := (k, z, s))
  rw [← hvb] at HV hvz
  rw [← hzb] at HQ
  obtain ⟨g0, kg0⟩ : ∃ b, decide (0 ≤ m) = b := ⟨_, rfl⟩
  obtain ⟨g1, kg1⟩ : ∃ b, decide (m < 8) = b := ⟨_, rfl⟩
  obtain ⟨g2, kg2⟩ : ∃ b, decide (m < 16) = b := ⟨_, rfl⟩
  have HR : Hid (nok (3, m, k, z, s) = (g0 && g2 && zb)) := hid (by unfold nok; rw [if_neg (by simp), if_pos (by simp)]; rw [hzb, ← kg0, ← kg2]; simp [Bool.and_assoc])
  rw [HR.out]
  clear hvz hvb hzb HR
  go_enter Tryz.func86, Tryz.ntmps86
  cases g2
  · skip
    cases g0
    · go_wp2_with (first
        | (refine wpList_load_g (by rfl) 33 (.tmp 5) rfl w.heap.size 2 rfl [.int .i64 k, .int .i64 z, .string s] _ RP hu rfl info_val3 ?_)
        | (refine wpList_exec (by rfl) (.bool zb) (exec_eql 33 _ (.tmp 6) (.tmp 7) rfl _ _ rfl rfl guard_val zb (HQ.out _)) ?_)
        | fail)
      go_ret
      exact ⟨by simp, hb0⟩
    · cases g1
      · go_wp2_with (first
        | (refine wpList_load_g (by rfl) 33 (.tmp 5) rfl w.heap.size 2 rfl [.int .i64 k, .int .i64 z, .string s] _ RP hu rfl info_val3 ?_)
        | (refine wpList_exec (by rfl) (.bool zb) (exec_eql 33 _ (.tmp 6) (.tmp 7) rfl _ _ rfl rfl guard_val zb (HQ.out _)) ?_)
        | fail)
        go_ret
        exact ⟨by simp, hb0⟩
      · go_wp2_with (first
        | (refine wpList_load_g (by rfl) 33 (.tmp 5) rfl w.heap.size 2 rfl [.int .i64 k, .int .i64 z, .string s] _ RP hu rfl info_val3 ?_)
        | (refine wpList_exec (by rfl) (.bool zb) (exec_eql 33 _ (.tmp 6) (.tmp 7) rfl _ _ rfl rfl guard_val zb (HQ.out _)) ?_)
        | (refine wpList_load_g (by rfl) 33 (.tmp 18) rfl w.heap.size 2 rfl [.int .i64 k, .int .i64 z, .string s] _ RP hu rfl info_val3 ?_)
        | fail)
        refine (HV.out _).mono ?_
        rintro e' w' ⟨rfl, hb⟩
        have B1 := B0.later hb
        have hb1 := hb0.trans (hb.mono hb0.size)
        have q0 := B1.cell (j := 0) rfl
        have q1 := B1.cell (j := 1) rfl
        have q2 := B1.cell (j := 2) rfl
        clear B0 hb0 RP hb B1
        go_wp2_with fail
        go_ret
        exact ⟨by simp, hb1⟩
  · skip
    cases g0
    · go_wp2_with (first
        | (refine wpList_load_g (by rfl) 33 (.tmp 5) rfl w.heap.size 2 rfl [.int .i64 k, .int .i64 z, .string s] _ RP hu rfl info_val3 ?_)
        | (refine wpList_exec (by rfl) (.bool zb) (exec_eql 33 _ (.tmp 6) (.tmp 7) rfl _ _ rfl rfl guard_val zb (HQ.out _)) ?_)
        | fail)
      go_ret
      exact ⟨by simp, hb0⟩
    · cases g1
      · go_wp2_with (first
        | (refine wpList_load_g (by rfl) 33 (.tmp 5) rfl w.heap.size 2 rfl [.int .i64 k, .int .i64 z, .string s] _ RP hu rfl info_val3 ?_)
        | (refine wpList_exec (by rfl) (.bool zb) (exec_eql 33 _ (.tmp 6) (.tmp 7) rfl _ _ rfl rfl guard_val zb (HQ.out _)) ?_)
        | fail)
        go_ret
        exact ⟨by simp, hb0⟩
      · go_wp2_with (first
        | (refine wpList_load_g (by rfl) 33 (.tmp 5) rfl w.heap.size 2 rfl [.int .i64 k, .int .i64 z, .string s] _ RP hu rfl info_val3 ?_)
        | (refine wpList_exec (by rfl) (.bool zb) (exec_eql 33 _ (.tmp 6) (.tmp 7) rfl _ _ rfl rfl guard_val zb (HQ.out _)) ?_)
        | (refine wpList_load_g (by rfl) 33 (.tmp 18) rfl w.heap.size 2 rfl [.int .i64 k, .int .i64 z, .string s] _ RP hu rfl info_val3 ?_)
        | fail)
        refine (HV.out _).mono ?_
        rintro e' w' ⟨rfl, hb⟩
        have B1 := B0.later hb
        have hb1 := hb0.trans (hb.mono hb0.size)
        have q0 := B1.cell (j := 0) rfl
        have q1 := B1.cell (j := 1) rfl
        have q2 := B1.cell (j := 2) rfl
        clear B0 hb0 RP hb B1
        go_wp2_with fail
        go_ret
        exact ⟨by simp, hb1⟩
theorem rnode_4 (m k z : Int) (s : ByteArray) (w : World) :
    Calls Tryz.prog 86 #[.agg #[.int .i64 4, .int .i64 m, .int .i64 k, .int .i64 z, .string s]] w fun e w' => e = .returned (.bool (nok (4, m, k, z, s))) ∧ Below w.heap.size w w' := by
  have HV := hid (fun wx : World => rvcheck_any k z s wx)
  have HQ : Hid (∀ wx : World, (Op.equalIn 10000 33 (.agg #[.int .i64 k, .int .i64 z, .string s]) (.agg #[.int .i64 0, .int .i64 0, .string ⟨#[]⟩])).run Tryz.prog wx = .ok (decide ((k, z, s) = zv)) wx) := hid (fun wx => eq_val 9998 (k, z, s) zv wx)
  have B0 := Blk.new w [.int .i64 4, .int .i64 m, .int .i64 k, .int .i64 z, .string s] 73
  have hb0 := (Below.refl w.heap.size w).alloc (Nat.le_refl _) (.cells #[.int .i64 4, .int .i64 m, .int .i64 k, .int .i64 z, .string s] 73)
  have RP := B0.range 2 [.int .i64 k, .int .i64 z, .string s] rfl
  have hu := Tryz.underlying33
  obtain ⟨vb, hvb⟩ : ∃ b, b = vchk (k, z, s) := ⟨_, rfl⟩
  obtain ⟨zb, hzb⟩ : ∃ b, b = decide ((k, z, s) = zv) := ⟨_, rfl⟩
  have hvz := vchk_isz (v := (k, z, s))
  rw [← hvb] at HV hvz
  rw [← hzb] at HQ
  obtain ⟨g0, kg0⟩ : ∃ b, decide (0 ≤ m) = b := ⟨_, rfl⟩
  obtain ⟨g1, kg1⟩ : ∃ b, decide (m < 8) = b := ⟨_, rfl⟩
  obtain ⟨g2, kg2⟩ : ∃ b, decide (m < 16) = b := ⟨_, rfl⟩
  have HR : Hid (nok (4, m, k, z, s) = (g0 && g2 && zb)) := hid (by unfold nok; rw [if_neg (by simp), if_pos (by simp)]; rw [hzb, ← kg0, ← kg2]; simp [Bool.and_assoc])
  rw [HR.out]
  clear hvz hvb hzb HR
  go_enter Tryz.func86, Tryz.ntmps86
  cases g2
  · skip
    cases g0
    · go_wp2_with (first
        | (refine wpList_load_g (by rfl) 33 (.tmp 5) rfl w.heap.size 2 rfl [.int .i64 k, .int .i64 z, .string s] _ RP hu rfl info_val3 ?_)
        | (refine wpList_exec (by rfl) (.bool zb) (exec_eql 33 _ (.tmp 6) (.tmp 7) rfl _ _ rfl rfl guard_val zb (HQ.out _)) ?_)
        | fail)
      go_ret
      exact ⟨by simp, hb0⟩
    · cases g1
      · go_wp2_with (first
        | (refine wpList_load_g (by rfl) 33 (.tmp 5) rfl w.heap.size 2 rfl [.int .i64 k, .int .i64 z, .string s] _ RP hu rfl info_val3 ?_)
        | (refine wpList_exec (by rfl) (.bool zb) (exec_eql 33 _ (.tmp 6) (.tmp 7) rfl _ _ rfl rfl guard_val zb (HQ.out _)) ?_)
        | fail)
        go_ret
        exact ⟨by simp, hb0⟩
      · go_wp2_with (first
        | (refine wpList_load_g (by rfl) 33 (.tmp 5) rfl w.heap.size 2 rfl [.int .i64 k, .int .i64 z, .string s] _ RP hu rfl info_val3 ?_)
        | (refine wpList_exec (by rfl) (.bool zb) (exec_eql 33 _ (.tmp 6) (.tmp 7) rfl _ _ rfl rfl guard_val zb (HQ.out _)) ?_)
        | (refine wpList_load_g (by rfl) 33 (.tmp 18) rfl w.heap.size 2 rfl [.int .i64 k, .int .i64 z, .string s] _ RP hu rfl info_val3 ?_)
        | fail)
        refine (HV.out _).mono ?_
        rintro e' w' ⟨rfl, hb⟩
        have B1 := B0.later hb
        have hb1 := hb0.trans (hb.mono hb0.size)
        have q0 := B1.cell (j := 0) rfl
        have q1 := B1.cell (j := 1) rfl
        have q2 := B1.cell (j := 2) rfl
        clear B0 hb0 RP hb B1
        go_wp2_with fail
        go_ret
        exact ⟨by simp, hb1⟩
  · skip
    cases g0
    · go_wp2_with (first
        | (refine wpList_load_g (by rfl) 33 (.tmp 5) rfl w.heap.size 2 rfl [.int .i64 k, .int .i64 z, .string s] _ RP hu rfl info_val3 ?_)
        | (refine wpList_exec (by rfl) (.bool zb) (exec_eql 33 _ (.tmp 6) (.tmp 7) rfl _ _ rfl rfl guard_val zb (HQ.out _)) ?_)
        | fail)
      go_ret
      exact ⟨by simp, hb0⟩
    · cases g1
      · go_wp2_with (first
        | (refine wpList_load_g (by rfl) 33 (.tmp 5) rfl w.heap.size 2 rfl [.int .i64 k, .int .i64 z, .string s] _ RP hu rfl info_val3 ?_)
        | (refine wpList_exec (by rfl) (.bool zb) (exec_eql 33 _ (.tmp 6) (.tmp 7) rfl _ _ rfl rfl guard_val zb (HQ.out _)) ?_)
        | fail)
        go_ret
        exact ⟨by simp, hb0⟩
      · go_wp2_with (first
        | (refine wpList_load_g (by rfl) 33 (.tmp 5) rfl w.heap.size 2 rfl [.int .i64 k, .int .i64 z, .string s] _ RP hu rfl info_val3 ?_)
        | (refine wpList_exec (by rfl) (.bool zb) (exec_eql 33 _ (.tmp 6) (.tmp 7) rfl _ _ rfl rfl guard_val zb (HQ.out _)) ?_)
        | (refine wpList_load_g (by rfl) 33 (.tmp 18) rfl w.heap.size 2 rfl [.int .i64 k, .int .i64 z, .string s] _ RP hu rfl info_val3 ?_)
        | fail)
        refine (HV.out _).mono ?_
        rintro e' w' ⟨rfl, hb⟩
        have B1 := B0.later hb
        have hb1 := hb0.trans (hb.mono hb0.size)
        have q0 := B1.cell (j := 0) rfl
        have q1 := B1.cell (j := 1) rfl
        have q2 := B1.cell (j := 2) rfl
        clear B0 hb0 RP hb B1
        go_wp2_with fail
        go_ret
        exact ⟨by simp, hb1⟩
theorem rnode_5 (m k z : Int) (s : ByteArray) (w : World) :
    Calls Tryz.prog 86 #[.agg #[.int .i64 5, .int .i64 m, .int .i64 k, .int .i64 z, .string s]] w fun e w' => e = .returned (.bool (nok (5, m, k, z, s))) ∧ Below w.heap.size w w' := by
  have HV := hid (fun wx : World => rvcheck_any k z s wx)
  have HQ : Hid (∀ wx : World, (Op.equalIn 10000 33 (.agg #[.int .i64 k, .int .i64 z, .string s]) (.agg #[.int .i64 0, .int .i64 0, .string ⟨#[]⟩])).run Tryz.prog wx = .ok (decide ((k, z, s) = zv)) wx) := hid (fun wx => eq_val 9998 (k, z, s) zv wx)
  have B0 := Blk.new w [.int .i64 5, .int .i64 m, .int .i64 k, .int .i64 z, .string s] 73
  have hb0 := (Below.refl w.heap.size w).alloc (Nat.le_refl _) (.cells #[.int .i64 5, .int .i64 m, .int .i64 k, .int .i64 z, .string s] 73)
  have RP := B0.range 2 [.int .i64 k, .int .i64 z, .string s] rfl
  have hu := Tryz.underlying33
  obtain ⟨vb, hvb⟩ : ∃ b, b = vchk (k, z, s) := ⟨_, rfl⟩
  obtain ⟨zb, hzb⟩ : ∃ b, b = decide ((k, z, s) = zv) := ⟨_, rfl⟩
  have hvz := vchk_isz (v := (k, z, s))
  rw [← hvb] at HV hvz
  rw [← hzb] at HQ
  obtain ⟨g0, kg0⟩ : ∃ b, decide (0 ≤ m) = b := ⟨_, rfl⟩
  obtain ⟨g1, kg1⟩ : ∃ b, decide (m < 8) = b := ⟨_, rfl⟩
  have HR : Hid (nok (5, m, k, z, s) = (g0 && g1 && vb && zb)) := hid (by unfold nok; rw [if_neg (by simp), if_neg (by simp), if_pos (by simp)]; rw [← kg0, ← kg1]; rw [Bool.eq_iff_iff]; simp only [Bool.and_eq_true, decide_eq_true_eq]; exact ⟨fun ⟨h1, h2, h3⟩ => ⟨⟨⟨h1, h2⟩, by rw [hvb, h3]; exact vchk_zv⟩, by rw [hzb]; exact decide_eq_true h3⟩, fun ⟨⟨⟨h1, h2⟩, h3⟩, h4⟩ => ⟨h1, h2, by rw [hzb] at h4; exact of_decide_eq_true h4⟩⟩)
  rw [HR.out]
  clear hvz hvb hzb HR
  go_enter Tryz.func86, Tryz.ntmps86
  cases g0
  · go_wp2_with (first
      | (refine wpList_load_g (by rfl) 33 (.tmp 5) rfl w.heap.size 2 rfl [.int .i64 k, .int .i64 z, .string s] _ RP hu rfl info_val3 ?_)
      | (refine wpList_exec (by rfl) (.bool zb) (exec_eql 33 _ (.tmp 6) (.tmp 7) rfl _ _ rfl rfl guard_val zb (HQ.out _)) ?_)
      | fail)
    go_ret
    exact ⟨by simp, hb0⟩
  · cases g1
    · go_wp2_with (first
      | (refine wpList_load_g (by rfl) 33 (.tmp 5) rfl w.heap.size 2 rfl [.int .i64 k, .int .i64 z, .string s] _ RP hu rfl info_val3 ?_)
      | (refine wpList_exec (by rfl) (.bool zb) (exec_eql 33 _ (.tmp 6) (.tmp 7) rfl _ _ rfl rfl guard_val zb (HQ.out _)) ?_)
      | fail)
      go_ret
      exact ⟨by simp, hb0⟩
    · go_wp2_with (first
      | (refine wpList_load_g (by rfl) 33 (.tmp 5) rfl w.heap.size 2 rfl [.int .i64 k, .int .i64 z, .string s] _ RP hu rfl info_val3 ?_)
      | (refine wpList_exec (by rfl) (.bool zb) (exec_eql 33 _ (.tmp 6) (.tmp 7) rfl _ _ rfl rfl guard_val zb (HQ.out _)) ?_)
      | (refine wpList_load_g (by rfl) 33 (.tmp 18) rfl w.heap.size 2 rfl [.int .i64 k, .int .i64 z, .string s] _ RP hu rfl info_val3 ?_)
      | fail)
      refine (HV.out _).mono ?_
      rintro e' w' ⟨rfl, hb⟩
      have B1 := B0.later hb
      have hb1 := hb0.trans (hb.mono hb0.size)
      have q0 := B1.cell (j := 0) rfl
      have q1 := B1.cell (j := 1) rfl
      have q2 := B1.cell (j := 2) rfl
      clear B0 hb0 RP hb B1
      cases vb
      · go_wp2_with fail
        go_ret
        exact ⟨by simp, hb1⟩
      · go_wp2_with fail
        go_ret
        exact ⟨by simp, hb1⟩
theorem rnode_6 (m k z : Int) (s : ByteArray) (w : World) :
    Calls Tryz.prog 86 #[.agg #[.int .i64 6, .int .i64 m, .int .i64 k, .int .i64 z, .string s]] w fun e w' => e = .returned (.bool (nok (6, m, k, z, s))) ∧ Below w.heap.size w w' := by
  have HV := hid (fun wx : World => rvcheck_any k z s wx)
  have HQ : Hid (∀ wx : World, (Op.equalIn 10000 33 (.agg #[.int .i64 k, .int .i64 z, .string s]) (.agg #[.int .i64 0, .int .i64 0, .string ⟨#[]⟩])).run Tryz.prog wx = .ok (decide ((k, z, s) = zv)) wx) := hid (fun wx => eq_val 9998 (k, z, s) zv wx)
  have B0 := Blk.new w [.int .i64 6, .int .i64 m, .int .i64 k, .int .i64 z, .string s] 73
  have hb0 := (Below.refl w.heap.size w).alloc (Nat.le_refl _) (.cells #[.int .i64 6, .int .i64 m, .int .i64 k, .int .i64 z, .string s] 73)
  have RP := B0.range 2 [.int .i64 k, .int .i64 z, .string s] rfl
  have hu := Tryz.underlying33
  obtain ⟨vb, hvb⟩ : ∃ b, b = vchk (k, z, s) := ⟨_, rfl⟩
  obtain ⟨zb, hzb⟩ : ∃ b, b = decide ((k, z, s) = zv) := ⟨_, rfl⟩
  have hvz := vchk_isz (v := (k, z, s))
  rw [← hvb] at HV hvz
  rw [← hzb] at HQ
  obtain ⟨g0, kg0⟩ : ∃ b, decide (0 ≤ m) = b := ⟨_, rfl⟩
  obtain ⟨g1, kg1⟩ : ∃ b, decide (m < 8) = b := ⟨_, rfl⟩
  have HR : Hid (nok (6, m, k, z, s) = (g0 && g1 && vb && !zb)) := hid (by unfold nok; rw [if_neg (by simp), if_neg (by simp), if_neg (by simp), if_pos (by simp)]; rw [← kg0, ← kg1, hvb, hzb]; rw [Bool.eq_iff_iff]; simp [and_assoc])
  rw [HR.out]
  clear hvz hvb hzb HR
  go_enter Tryz.func86, Tryz.ntmps86
  cases g0
  · go_wp2_with (first
      | (refine wpList_load_g (by rfl) 33 (.tmp 5) rfl w.heap.size 2 rfl [.int .i64 k, .int .i64 z, .string s] _ RP hu rfl info_val3 ?_)
      | (refine wpList_exec (by rfl) (.bool zb) (exec_eql 33 _ (.tmp 6) (.tmp 7) rfl _ _ rfl rfl guard_val zb (HQ.out _)) ?_)
      | fail)
    go_ret
    exact ⟨by simp, hb0⟩
  · cases g1
    · go_wp2_with (first
      | (refine wpList_load_g (by rfl) 33 (.tmp 5) rfl w.heap.size 2 rfl [.int .i64 k, .int .i64 z, .string s] _ RP hu rfl info_val3 ?_)
      | (refine wpList_exec (by rfl) (.bool zb) (exec_eql 33 _ (.tmp 6) (.tmp 7) rfl _ _ rfl rfl guard_val zb (HQ.out _)) ?_)
      | fail)
      go_ret
      exact ⟨by simp, hb0⟩
    · go_wp2_with (first
      | (refine wpList_load_g (by rfl) 33 (.tmp 5) rfl w.heap.size 2 rfl [.int .i64 k, .int .i64 z, .string s] _ RP hu rfl info_val3 ?_)
      | (refine wpList_exec (by rfl) (.bool zb) (exec_eql 33 _ (.tmp 6) (.tmp 7) rfl _ _ rfl rfl guard_val zb (HQ.out _)) ?_)
      | (refine wpList_load_g (by rfl) 33 (.tmp 18) rfl w.heap.size 2 rfl [.int .i64 k, .int .i64 z, .string s] _ RP hu rfl info_val3 ?_)
      | fail)
      refine (HV.out _).mono ?_
      rintro e' w' ⟨rfl, hb⟩
      have B1 := B0.later hb
      have hb1 := hb0.trans (hb.mono hb0.size)
      have q0 := B1.cell (j := 0) rfl
      have q1 := B1.cell (j := 1) rfl
      have q2 := B1.cell (j := 2) rfl
      clear B0 hb0 RP hb B1
      cases vb
      · go_wp2_with fail
        go_ret
        exact ⟨by simp, hb1⟩
      · go_wp2_with fail
        go_ret
        exact ⟨by simp, hb1⟩
theorem rnode_7 (m k z : Int) (s : ByteArray) (w : World) :
    Calls Tryz.prog 86 #[.agg #[.int .i64 7, .int .i64 m, .int .i64 k, .int .i64 z, .string s]] w fun e w' => e = .returned (.bool (nok (7, m, k, z, s))) ∧ Below w.heap.size w w' := by
  have HV := hid (fun wx : World => rvcheck_any k z s wx)
  have HQ : Hid (∀ wx : World, (Op.equalIn 10000 33 (.agg #[.int .i64 k, .int .i64 z, .string s]) (.agg #[.int .i64 0, .int .i64 0, .string ⟨#[]⟩])).run Tryz.prog wx = .ok (decide ((k, z, s) = zv)) wx) := hid (fun wx => eq_val 9998 (k, z, s) zv wx)
  have B0 := Blk.new w [.int .i64 7, .int .i64 m, .int .i64 k, .int .i64 z, .string s] 73
  have hb0 := (Below.refl w.heap.size w).alloc (Nat.le_refl _) (.cells #[.int .i64 7, .int .i64 m, .int .i64 k, .int .i64 z, .string s] 73)
  have RP := B0.range 2 [.int .i64 k, .int .i64 z, .string s] rfl
  have hu := Tryz.underlying33
  obtain ⟨vb, hvb⟩ : ∃ b, b = vchk (k, z, s) := ⟨_, rfl⟩
  obtain ⟨zb, hzb⟩ : ∃ b, b = decide ((k, z, s) = zv) := ⟨_, rfl⟩
  have hvz := vchk_isz (v := (k, z, s))
  rw [← hvb] at HV hvz
  rw [← hzb] at HQ
  obtain ⟨g0, kg0⟩ : ∃ b, decide (0 ≤ m) = b := ⟨_, rfl⟩
  obtain ⟨g1, kg1⟩ : ∃ b, decide (m < 8) = b := ⟨_, rfl⟩
  have HR : Hid (nok (7, m, k, z, s) = (g0 && g1 && vb && !zb)) := hid (by unfold nok; rw [if_neg (by simp), if_neg (by simp), if_neg (by simp), if_pos (by simp)]; rw [← kg0, ← kg1, hvb, hzb]; rw [Bool.eq_iff_iff]; simp [and_assoc])
  rw [HR.out]
  clear hvz hvb hzb HR
  go_enter Tryz.func86, Tryz.ntmps86
  cases g0
  · go_wp2_with (first
      | (refine wpList_load_g (by rfl) 33 (.tmp 5) rfl w.heap.size 2 rfl [.int .i64 k, .int .i64 z, .string s] _ RP hu rfl info_val3 ?_)
      | (refine wpList_exec (by rfl) (.bool zb) (exec_eql 33 _ (.tmp 6) (.tmp 7) rfl _ _ rfl rfl guard_val zb (HQ.out _)) ?_)
      | fail)
    go_ret
    exact ⟨by simp, hb0⟩
  · cases g1
    · go_wp2_with (first
      | (refine wpList_load_g (by rfl) 33 (.tmp 5) rfl w.heap.size 2 rfl [.int .i64 k, .int .i64 z, .string s] _ RP hu rfl info_val3 ?_)
      | (refine wpList_exec (by rfl) (.bool zb) (exec_eql 33 _ (.tmp 6) (.tmp 7) rfl _ _ rfl rfl guard_val zb (HQ.out _)) ?_)
      | fail)
      go_ret
      exact ⟨by simp, hb0⟩
    · go_wp2_with (first
      | (refine wpList_load_g (by rfl) 33 (.tmp 5) rfl w.heap.size 2 rfl [.int .i64 k, .int .i64 z, .string s] _ RP hu rfl info_val3 ?_)
      | (refine wpList_exec (by rfl) (.bool zb) (exec_eql 33 _ (.tmp 6) (.tmp 7) rfl _ _ rfl rfl guard_val zb (HQ.out _)) ?_)
      | (refine wpList_load_g (by rfl) 33 (.tmp 18) rfl w.heap.size 2 rfl [.int .i64 k, .int .i64 z, .string s] _ RP hu rfl info_val3 ?_)
      | fail)
      refine (HV.out _).mono ?_
      rintro e' w' ⟨rfl, hb⟩
      have B1 := B0.later hb
      have hb1 := hb0.trans (hb.mono hb0.size)
      have q0 := B1.cell (j := 0) rfl
      have q1 := B1.cell (j := 1) rfl
      have q2 := B1.cell (j := 2) rfl
      clear B0 hb0 RP hb B1
      cases vb
      · go_wp2_with fail
        go_ret
        exact ⟨by simp, hb1⟩
      · go_wp2_with fail
        go_ret
        exact ⟨by simp, hb1⟩
theorem rnode_8 (m k z : Int) (s : ByteArray) (w : World) :
    Calls Tryz.prog 86 #[.agg #[.int .i64 8, .int .i64 m, .int .i64 k, .int .i64 z, .string s]] w fun e w' => e = .returned (.bool (nok (8, m, k, z, s))) ∧ Below w.heap.size w w' := by
  have HV := hid (fun wx : World => rvcheck_any k z s wx)
  have HQ : Hid (∀ wx : World, (Op.equalIn 10000 33 (.agg #[.int .i64 k, .int .i64 z, .string s]) (.agg #[.int .i64 0, .int .i64 0, .string ⟨#[]⟩])).run Tryz.prog wx = .ok (decide ((k, z, s) = zv)) wx) := hid (fun wx => eq_val 9998 (k, z, s) zv wx)
  have B0 := Blk.new w [.int .i64 8, .int .i64 m, .int .i64 k, .int .i64 z, .string s] 73
  have hb0 := (Below.refl w.heap.size w).alloc (Nat.le_refl _) (.cells #[.int .i64 8, .int .i64 m, .int .i64 k, .int .i64 z, .string s] 73)
  have RP := B0.range 2 [.int .i64 k, .int .i64 z, .string s] rfl
  have hu := Tryz.underlying33
  obtain ⟨vb, hvb⟩ : ∃ b, b = vchk (k, z, s) := ⟨_, rfl⟩
  obtain ⟨zb, hzb⟩ : ∃ b, b = decide ((k, z, s) = zv) := ⟨_, rfl⟩
  have hvz := vchk_isz (v := (k, z, s))
  rw [← hvb] at HV hvz
  rw [← hzb] at HQ
  obtain ⟨g0, kg0⟩ : ∃ b, decide (0 ≤ m) = b := ⟨_, rfl⟩
  obtain ⟨g1, kg1⟩ : ∃ b, decide (m < 8) = b := ⟨_, rfl⟩
  have HR : Hid (nok (8, m, k, z, s) = (g0 && g1 && vb && !zb)) := hid (by unfold nok; rw [if_neg (by simp), if_neg (by simp), if_neg (by simp), if_pos (by simp)]; rw [← kg0, ← kg1, hvb, hzb]; rw [Bool.eq_iff_iff]; simp [and_assoc])
  rw [HR.out]
  clear hvz hvb hzb HR
  go_enter Tryz.func86, Tryz.ntmps86
  cases g0
  · go_wp2_with (first
      | (refine wpList_load_g (by rfl) 33 (.tmp 5) rfl w.heap.size 2 rfl [.int .i64 k, .int .i64 z, .string s] _ RP hu rfl info_val3 ?_)
      | (refine wpList_exec (by rfl) (.bool zb) (exec_eql 33 _ (.tmp 6) (.tmp 7) rfl _ _ rfl rfl guard_val zb (HQ.out _)) ?_)
      | fail)
    go_ret
    exact ⟨by simp, hb0⟩
  · cases g1
    · go_wp2_with (first
      | (refine wpList_load_g (by rfl) 33 (.tmp 5) rfl w.heap.size 2 rfl [.int .i64 k, .int .i64 z, .string s] _ RP hu rfl info_val3 ?_)
      | (refine wpList_exec (by rfl) (.bool zb) (exec_eql 33 _ (.tmp 6) (.tmp 7) rfl _ _ rfl rfl guard_val zb (HQ.out _)) ?_)
      | fail)
      go_ret
      exact ⟨by simp, hb0⟩
    · go_wp2_with (first
      | (refine wpList_load_g (by rfl) 33 (.tmp 5) rfl w.heap.size 2 rfl [.int .i64 k, .int .i64 z, .string s] _ RP hu rfl info_val3 ?_)
      | (refine wpList_exec (by rfl) (.bool zb) (exec_eql 33 _ (.tmp 6) (.tmp 7) rfl _ _ rfl rfl guard_val zb (HQ.out _)) ?_)
      | (refine wpList_load_g (by rfl) 33 (.tmp 18) rfl w.heap.size 2 rfl [.int .i64 k, .int .i64 z, .string s] _ RP hu rfl info_val3 ?_)
      | fail)
      refine (HV.out _).mono ?_
      rintro e' w' ⟨rfl, hb⟩
      have B1 := B0.later hb
      have hb1 := hb0.trans (hb.mono hb0.size)
      have q0 := B1.cell (j := 0) rfl
      have q1 := B1.cell (j := 1) rfl
      have q2 := B1.cell (j := 2) rfl
      clear B0 hb0 RP hb B1
      cases vb
      · go_wp2_with fail
        go_ret
        exact ⟨by simp, hb1⟩
      · go_wp2_with fail
        go_ret
        exact ⟨by simp, hb1⟩
theorem rnode_9 (m k z : Int) (s : ByteArray) (w : World) :
    Calls Tryz.prog 86 #[.agg #[.int .i64 9, .int .i64 m, .int .i64 k, .int .i64 z, .string s]] w fun e w' => e = .returned (.bool (nok (9, m, k, z, s))) ∧ Below w.heap.size w w' := by
  have HV := hid (fun wx : World => rvcheck_any k z s wx)
  have HQ : Hid (∀ wx : World, (Op.equalIn 10000 33 (.agg #[.int .i64 k, .int .i64 z, .string s]) (.agg #[.int .i64 0, .int .i64 0, .string ⟨#[]⟩])).run Tryz.prog wx = .ok (decide ((k, z, s) = zv)) wx) := hid (fun wx => eq_val 9998 (k, z, s) zv wx)
  have B0 := Blk.new w [.int .i64 9, .int .i64 m, .int .i64 k, .int .i64 z, .string s] 73
  have hb0 := (Below.refl w.heap.size w).alloc (Nat.le_refl _) (.cells #[.int .i64 9, .int .i64 m, .int .i64 k, .int .i64 z, .string s] 73)
  have RP := B0.range 2 [.int .i64 k, .int .i64 z, .string s] rfl
  have hu := Tryz.underlying33
  obtain ⟨vb, hvb⟩ : ∃ b, b = vchk (k, z, s) := ⟨_, rfl⟩
  obtain ⟨zb, hzb⟩ : ∃ b, b = decide ((k, z, s) = zv) := ⟨_, rfl⟩
  have hvz := vchk_isz (v := (k, z, s))
  rw [← hvb] at HV hvz
  rw [← hzb] at HQ
  obtain ⟨g0, kg0⟩ : ∃ b, decide (0 ≤ m) = b := ⟨_, rfl⟩
  obtain ⟨g1, kg1⟩ : ∃ b, decide (m < 8) = b := ⟨_, rfl⟩
  obtain ⟨kb, kkb⟩ : ∃ b, (k == 2) = b := ⟨_, rfl⟩
  have HR : Hid (nok (9, m, k, z, s) = (g0 && g1 && vb && kb)) := hid (by unfold nok; rw [if_neg (by simp), if_neg (by simp), if_neg (by simp), if_neg (by simp), if_pos (by simp)]; rw [← kkb, ← kg0, ← kg1, hvb]; rw [Bool.eq_iff_iff]; simp [and_assoc])
  rw [HR.out]
  clear hvz hvb hzb HR
  go_enter Tryz.func86, Tryz.ntmps86
  cases g0
  · go_wp2_with (first
      | (refine wpList_load_g (by rfl) 33 (.tmp 5) rfl w.heap.size 2 rfl [.int .i64 k, .int .i64 z, .string s] _ RP hu rfl info_val3 ?_)
      | (refine wpList_exec (by rfl) (.bool zb) (exec_eql 33 _ (.tmp 6) (.tmp 7) rfl _ _ rfl rfl guard_val zb (HQ.out _)) ?_)
      | fail)
    go_ret
    exact ⟨by simp, hb0⟩
  · cases g1
    · go_wp2_with (first
      | (refine wpList_load_g (by rfl) 33 (.tmp 5) rfl w.heap.size 2 rfl [.int .i64 k, .int .i64 z, .string s] _ RP hu rfl info_val3 ?_)
      | (refine wpList_exec (by rfl) (.bool zb) (exec_eql 33 _ (.tmp 6) (.tmp 7) rfl _ _ rfl rfl guard_val zb (HQ.out _)) ?_)
      | fail)
      go_ret
      exact ⟨by simp, hb0⟩
    · go_wp2_with (first
      | (refine wpList_load_g (by rfl) 33 (.tmp 5) rfl w.heap.size 2 rfl [.int .i64 k, .int .i64 z, .string s] _ RP hu rfl info_val3 ?_)
      | (refine wpList_exec (by rfl) (.bool zb) (exec_eql 33 _ (.tmp 6) (.tmp 7) rfl _ _ rfl rfl guard_val zb (HQ.out _)) ?_)
      | (refine wpList_load_g (by rfl) 33 (.tmp 18) rfl w.heap.size 2 rfl [.int .i64 k, .int .i64 z, .string s] _ RP hu rfl info_val3 ?_)
      | fail)
      refine (HV.out _).mono ?_
      rintro e' w' ⟨rfl, hb⟩
      have B1 := B0.later hb
      have hb1 := hb0.trans (hb.mono hb0.size)
      have q0 := B1.cell (j := 0) rfl
      have q1 := B1.cell (j := 1) rfl
      have q2 := B1.cell (j := 2) rfl
      clear B0 hb0 RP hb B1
      cases vb
      · go_wp2_with fail
        go_ret
        exact ⟨by simp, hb1⟩
      · go_wp2_with fail
        go_ret
        exact ⟨by simp, hb1⟩
theorem rnode_10 (m k z : Int) (s : ByteArray) (w : World) :
    Calls Tryz.prog 86 #[.agg #[.int .i64 10, .int .i64 m, .int .i64 k, .int .i64 z, .string s]] w fun e w' => e = .returned (.bool (nok (10, m, k, z, s))) ∧ Below w.heap.size w w' := by
  have HV := hid (fun wx : World => rvcheck_any k z s wx)
  have HQ : Hid (∀ wx : World, (Op.equalIn 10000 33 (.agg #[.int .i64 k, .int .i64 z, .string s]) (.agg #[.int .i64 0, .int .i64 0, .string ⟨#[]⟩])).run Tryz.prog wx = .ok (decide ((k, z, s) = zv)) wx) := hid (fun wx => eq_val 9998 (k, z, s) zv wx)
  have B0 := Blk.new w [.int .i64 10, .int .i64 m, .int .i64 k, .int .i64 z, .string s] 73
  have hb0 := (Below.refl w.heap.size w).alloc (Nat.le_refl _) (.cells #[.int .i64 10, .int .i64 m, .int .i64 k, .int .i64 z, .string s] 73)
  have RP := B0.range 2 [.int .i64 k, .int .i64 z, .string s] rfl
  have hu := Tryz.underlying33
  obtain ⟨vb, hvb⟩ : ∃ b, b = vchk (k, z, s) := ⟨_, rfl⟩
  obtain ⟨zb, hzb⟩ : ∃ b, b = decide ((k, z, s) = zv) := ⟨_, rfl⟩
  have hvz := vchk_isz (v := (k, z, s))
  rw [← hvb] at HV hvz
  rw [← hzb] at HQ
  obtain ⟨g0, kg0⟩ : ∃ b, decide (0 ≤ m) = b := ⟨_, rfl⟩
  obtain ⟨g1, kg1⟩ : ∃ b, decide (m < 8) = b := ⟨_, rfl⟩
  obtain ⟨b0, kb0⟩ : ∃ b, (m == 0) = b := ⟨_, rfl⟩
  have HR : Hid (nok (10, m, k, z, s) = (b0 && zb)) := hid (by unfold nok; rw [if_pos (by simp)]; rw [hzb, ← kb0]; by_cases h : m = 0 <;> simp [h])
  rw [HR.out]
  clear hvz hvb hzb HR
  go_enter Tryz.func86, Tryz.ntmps86
  cases b0
  · skip
    cases g0
    · go_wp2_with (first
        | (refine wpList_load_g (by rfl) 33 (.tmp 5) rfl w.heap.size 2 rfl [.int .i64 k, .int .i64 z, .string s] _ RP hu rfl info_val3 ?_)
        | (refine wpList_exec (by rfl) (.bool zb) (exec_eql 33 _ (.tmp 6) (.tmp 7) rfl _ _ rfl rfl guard_val zb (HQ.out _)) ?_)
        | fail)
      go_ret
      exact ⟨by simp, hb0⟩
    · cases g1
      · go_wp2_with (first
        | (refine wpList_load_g (by rfl) 33 (.tmp 5) rfl w.heap.size 2 rfl [.int .i64 k, .int .i64 z, .string s] _ RP hu rfl info_val3 ?_)
        | (refine wpList_exec (by rfl) (.bool zb) (exec_eql 33 _ (.tmp 6) (.tmp 7) rfl _ _ rfl rfl guard_val zb (HQ.out _)) ?_)
        | fail)
        go_ret
        exact ⟨by simp, hb0⟩
      · go_wp2_with (first
        | (refine wpList_load_g (by rfl) 33 (.tmp 5) rfl w.heap.size 2 rfl [.int .i64 k, .int .i64 z, .string s] _ RP hu rfl info_val3 ?_)
        | (refine wpList_exec (by rfl) (.bool zb) (exec_eql 33 _ (.tmp 6) (.tmp 7) rfl _ _ rfl rfl guard_val zb (HQ.out _)) ?_)
        | (refine wpList_load_g (by rfl) 33 (.tmp 18) rfl w.heap.size 2 rfl [.int .i64 k, .int .i64 z, .string s] _ RP hu rfl info_val3 ?_)
        | fail)
        refine (HV.out _).mono ?_
        rintro e' w' ⟨rfl, hb⟩
        have B1 := B0.later hb
        have hb1 := hb0.trans (hb.mono hb0.size)
        have q0 := B1.cell (j := 0) rfl
        have q1 := B1.cell (j := 1) rfl
        have q2 := B1.cell (j := 2) rfl
        clear B0 hb0 RP hb B1
        go_wp2_with fail
        go_ret
        exact ⟨by simp, hb1⟩
  · skip
    cases g0
    · go_wp2_with (first
        | (refine wpList_load_g (by rfl) 33 (.tmp 5) rfl w.heap.size 2 rfl [.int .i64 k, .int .i64 z, .string s] _ RP hu rfl info_val3 ?_)
        | (refine wpList_exec (by rfl) (.bool zb) (exec_eql 33 _ (.tmp 6) (.tmp 7) rfl _ _ rfl rfl guard_val zb (HQ.out _)) ?_)
        | fail)
      go_ret
      exact ⟨by simp, hb0⟩
    · cases g1
      · go_wp2_with (first
        | (refine wpList_load_g (by rfl) 33 (.tmp 5) rfl w.heap.size 2 rfl [.int .i64 k, .int .i64 z, .string s] _ RP hu rfl info_val3 ?_)
        | (refine wpList_exec (by rfl) (.bool zb) (exec_eql 33 _ (.tmp 6) (.tmp 7) rfl _ _ rfl rfl guard_val zb (HQ.out _)) ?_)
        | fail)
        go_ret
        exact ⟨by simp, hb0⟩
      · go_wp2_with (first
        | (refine wpList_load_g (by rfl) 33 (.tmp 5) rfl w.heap.size 2 rfl [.int .i64 k, .int .i64 z, .string s] _ RP hu rfl info_val3 ?_)
        | (refine wpList_exec (by rfl) (.bool zb) (exec_eql 33 _ (.tmp 6) (.tmp 7) rfl _ _ rfl rfl guard_val zb (HQ.out _)) ?_)
        | (refine wpList_load_g (by rfl) 33 (.tmp 18) rfl w.heap.size 2 rfl [.int .i64 k, .int .i64 z, .string s] _ RP hu rfl info_val3 ?_)
        | fail)
        refine (HV.out _).mono ?_
        rintro e' w' ⟨rfl, hb⟩
        have B1 := B0.later hb
        have hb1 := hb0.trans (hb.mono hb0.size)
        have q0 := B1.cell (j := 0) rfl
        have q1 := B1.cell (j := 1) rfl
        have q2 := B1.cell (j := 2) rfl
        clear B0 hb0 RP hb B1
        go_wp2_with fail
        go_ret
        exact ⟨by simp, hb1⟩
theorem rnode_11 (m k z : Int) (s : ByteArray) (w : World) :
    Calls Tryz.prog 86 #[.agg #[.int .i64 11, .int .i64 m, .int .i64 k, .int .i64 z, .string s]] w fun e w' => e = .returned (.bool (nok (11, m, k, z, s))) ∧ Below w.heap.size w w' := by
  have HV := hid (fun wx : World => rvcheck_any k z s wx)
  have HQ : Hid (∀ wx : World, (Op.equalIn 10000 33 (.agg #[.int .i64 k, .int .i64 z, .string s]) (.agg #[.int .i64 0, .int .i64 0, .string ⟨#[]⟩])).run Tryz.prog wx = .ok (decide ((k, z, s) = zv)) wx) := hid (fun wx => eq_val 9998 (k, z, s) zv wx)
  have B0 := Blk.new w [.int .i64 11, .int .i64 m, .int .i64 k, .int .i64 z, .string s] 73
  have hb0 := (Below.refl w.heap.size w).alloc (Nat.le_refl _) (.cells #[.int .i64 11, .int .i64 m, .int .i64 k, .int .i64 z, .string s] 73)
  have RP := B0.range 2 [.int .i64 k, .int .i64 z, .string s] rfl
  have hu := Tryz.underlying33
  obtain ⟨vb, hvb⟩ : ∃ b, b = vchk (k, z, s) := ⟨_, rfl⟩
  obtain ⟨zb, hzb⟩ : ∃ b, b = decide ((k, z, s) = zv) := ⟨_, rfl⟩
  have hvz := vchk_isz (v := (k, z, s))
  rw [← hvb] at HV hvz
  rw [← hzb] at HQ
  obtain ⟨g0, kg0⟩ : ∃ b, decide (0 ≤ m) = b := ⟨_, rfl⟩
  obtain ⟨g1, kg1⟩ : ∃ b, decide (m < 8) = b := ⟨_, rfl⟩
  obtain ⟨b0, kb0⟩ : ∃ b, (m == 0) = b := ⟨_, rfl⟩
  have HR : Hid (nok (11, m, k, z, s) = (b0 && zb)) := hid (by unfold nok; rw [if_pos (by simp)]; rw [hzb, ← kb0]; by_cases h : m = 0 <;> simp [h])
  rw [HR.out]
  clear hvz hvb hzb HR
  go_enter Tryz.func86, Tryz.ntmps86
  cases b0
  · skip
    cases g0
    · go_wp2_with (first
        | (refine wpList_load_g (by rfl) 33 (.tmp 5) rfl w.heap.size 2 rfl [.int .i64 k, .int .i64 z, .string s] _ RP hu rfl info_val3 ?_)
        | (refine wpList_exec (by rfl) (.bool zb) (exec_eql 33 _ (.tmp 6) (.tmp 7) rfl _ _ rfl rfl guard_val zb (HQ.out _)) ?_)
        | fail)
      go_ret
      exact ⟨by simp, hb0⟩
    · cases g1
      · go_wp2_with (first
        | (refine wpList_load_g (by rfl) 33 (.tmp 5) rfl w.heap.size 2 rfl [.int .i64 k, .int .i64 z, .string s] _ RP hu rfl info_val3 ?_)
        | (refine wpList_exec (by rfl) (.bool zb) (exec_eql 33 _ (.tmp 6) (.tmp 7) rfl _ _ rfl rfl guard_val zb (HQ.out _)) ?_)
        | fail)
        go_ret
        exact ⟨by simp, hb0⟩
      · go_wp2_with (first
        | (refine wpList_load_g (by rfl) 33 (.tmp 5) rfl w.heap.size 2 rfl [.int .i64 k, .int .i64 z, .string s] _ RP hu rfl info_val3 ?_)
        | (refine wpList_exec (by rfl) (.bool zb) (exec_eql 33 _ (.tmp 6) (.tmp 7) rfl _ _ rfl rfl guard_val zb (HQ.out _)) ?_)
        | (refine wpList_load_g (by rfl) 33 (.tmp 18) rfl w.heap.size 2 rfl [.int .i64 k, .int .i64 z, .string s] _ RP hu rfl info_val3 ?_)
        | fail)
        refine (HV.out _).mono ?_
        rintro e' w' ⟨rfl, hb⟩
        have B1 := B0.later hb
        have hb1 := hb0.trans (hb.mono hb0.size)
        have q0 := B1.cell (j := 0) rfl
        have q1 := B1.cell (j := 1) rfl
        have q2 := B1.cell (j := 2) rfl
        clear B0 hb0 RP hb B1
        go_wp2_with fail
        go_ret
        exact ⟨by simp, hb1⟩
  · skip
    cases g0
    · go_wp2_with (first
        | (refine wpList_load_g (by rfl) 33 (.tmp 5) rfl w.heap.size 2 rfl [.int .i64 k, .int .i64 z, .string s] _ RP hu rfl info_val3 ?_)
        | (refine wpList_exec (by rfl) (.bool zb) (exec_eql 33 _ (.tmp 6) (.tmp 7) rfl _ _ rfl rfl guard_val zb (HQ.out _)) ?_)
        | fail)
      go_ret
      exact ⟨by simp, hb0⟩
    · cases g1
      · go_wp2_with (first
        | (refine wpList_load_g (by rfl) 33 (.tmp 5) rfl w.heap.size 2 rfl [.int .i64 k, .int .i64 z, .string s] _ RP hu rfl info_val3 ?_)
        | (refine wpList_exec (by rfl) (.bool zb) (exec_eql 33 _ (.tmp 6) (.tmp 7) rfl _ _ rfl rfl guard_val zb (HQ.out _)) ?_)
        | fail)
        go_ret
        exact ⟨by simp, hb0⟩
      · go_wp2_with (first
        | (refine wpList_load_g (by rfl) 33 (.tmp 5) rfl w.heap.size 2 rfl [.int .i64 k, .int .i64 z, .string s] _ RP hu rfl info_val3 ?_)
        | (refine wpList_exec (by rfl) (.bool zb) (exec_eql 33 _ (.tmp 6) (.tmp 7) rfl _ _ rfl rfl guard_val zb (HQ.out _)) ?_)
        | (refine wpList_load_g (by rfl) 33 (.tmp 18) rfl w.heap.size 2 rfl [.int .i64 k, .int .i64 z, .string s] _ RP hu rfl info_val3 ?_)
        | fail)
        refine (HV.out _).mono ?_
        rintro e' w' ⟨rfl, hb⟩
        have B1 := B0.later hb
        have hb1 := hb0.trans (hb.mono hb0.size)
        have q0 := B1.cell (j := 0) rfl
        have q1 := B1.cell (j := 1) rfl
        have q2 := B1.cell (j := 2) rfl
        clear B0 hb0 RP hb B1
        go_wp2_with fail
        go_ret
        exact ⟨by simp, hb1⟩
theorem rnode_12 (m k z : Int) (s : ByteArray) (w : World) :
    Calls Tryz.prog 86 #[.agg #[.int .i64 12, .int .i64 m, .int .i64 k, .int .i64 z, .string s]] w fun e w' => e = .returned (.bool (nok (12, m, k, z, s))) ∧ Below w.heap.size w w' := by
  have HV := hid (fun wx : World => rvcheck_any k z s wx)
  have HQ : Hid (∀ wx : World, (Op.equalIn 10000 33 (.agg #[.int .i64 k, .int .i64 z, .string s]) (.agg #[.int .i64 0, .int .i64 0, .string ⟨#[]⟩])).run Tryz.prog wx = .ok (decide ((k, z, s) = zv)) wx) := hid (fun wx => eq_val 9998 (k, z, s) zv wx)
  have B0 := Blk.new w [.int .i64 12, .int .i64 m, .int .i64 k, .int .i64 z, .string s] 73
  have hb0 := (Below.refl w.heap.size w).alloc (Nat.le_refl _) (.cells #[.int .i64 12, .int .i64 m, .int .i64 k, .int .i64 z, .string s] 73)
  have RP := B0.range 2 [.int .i64 k, .int .i64 z, .string s] rfl
  have hu := Tryz.underlying33
  obtain ⟨vb, hvb⟩ : ∃ b, b = vchk (k, z, s) := ⟨_, rfl⟩
  obtain ⟨zb, hzb⟩ : ∃ b, b = decide ((k, z, s) = zv) := ⟨_, rfl⟩
  have hvz := vchk_isz (v := (k, z, s))
  rw [← hvb] at HV hvz
  rw [← hzb] at HQ
  obtain ⟨g0, kg0⟩ : ∃ b, decide (0 ≤ m) = b := ⟨_, rfl⟩
  obtain ⟨g1, kg1⟩ : ∃ b, decide (m < 8) = b := ⟨_, rfl⟩
  obtain ⟨b0, kb0⟩ : ∃ b, (m == 0) = b := ⟨_, rfl⟩
  have HR : Hid (nok (12, m, k, z, s) = (b0 && zb)) := hid (by unfold nok; rw [if_pos (by simp)]; rw [hzb, ← kb0]; by_cases h : m = 0 <;> simp [h])
  rw [HR.out]
  clear hvz hvb hzb HR
  go_enter Tryz.func86, Tryz.ntmps86
  cases b0
  · skip
    cases g0
    · go_wp2_with (first
        | (refine wpList_load_g (by rfl) 33 (.tmp 5) rfl w.heap.size 2 rfl [.int .i64 k, .int .i64 z, .string s] _ RP hu rfl info_val3 ?_)
        | (refine wpList_exec (by rfl) (.bool zb) (exec_eql 33 _ (.tmp 6) (.tmp 7) rfl _ _ rfl rfl guard_val zb (HQ.out _)) ?_)
        | fail)
      go_ret
      exact ⟨by simp, hb0⟩
    · cases g1
      · go_wp2_with (first
        | (refine wpList_load_g (by rfl) 33 (.tmp 5) rfl w.heap.size 2 rfl [.int .i64 k, .int .i64 z, .string s] _ RP hu rfl info_val3 ?_)
        | (refine wpList_exec (by rfl) (.bool zb) (exec_eql 33 _ (.tmp 6) (.tmp 7) rfl _ _ rfl rfl guard_val zb (HQ.out _)) ?_)
        | fail)
        go_ret
        exact ⟨by simp, hb0⟩
      · go_wp2_with (first
        | (refine wpList_load_g (by rfl) 33 (.tmp 5) rfl w.heap.size 2 rfl [.int .i64 k, .int .i64 z, .string s] _ RP hu rfl info_val3 ?_)
        | (refine wpList_exec (by rfl) (.bool zb) (exec_eql 33 _ (.tmp 6) (.tmp 7) rfl _ _ rfl rfl guard_val zb (HQ.out _)) ?_)
        | (refine wpList_load_g (by rfl) 33 (.tmp 18) rfl w.heap.size 2 rfl [.int .i64 k, .int .i64 z, .string s] _ RP hu rfl info_val3 ?_)
        | fail)
        refine (HV.out _).mono ?_
        rintro e' w' ⟨rfl, hb⟩
        have B1 := B0.later hb
        have hb1 := hb0.trans (hb.mono hb0.size)
        have q0 := B1.cell (j := 0) rfl
        have q1 := B1.cell (j := 1) rfl
        have q2 := B1.cell (j := 2) rfl
        clear B0 hb0 RP hb B1
        go_wp2_with fail
        go_ret
        exact ⟨by simp, hb1⟩
  · skip
    cases g0
    · go_wp2_with (first
        | (refine wpList_load_g (by rfl) 33 (.tmp 5) rfl w.heap.size 2 rfl [.int .i64 k, .int .i64 z, .string s] _ RP hu rfl info_val3 ?_)
        | (refine wpList_exec (by rfl) (.bool zb) (exec_eql 33 _ (.tmp 6) (.tmp 7) rfl _ _ rfl rfl guard_val zb (HQ.out _)) ?_)
        | fail)
      go_ret
      exact ⟨by simp, hb0⟩
    · cases g1
      · go_wp2_with (first
        | (refine wpList_load_g (by rfl) 33 (.tmp 5) rfl w.heap.size 2 rfl [.int .i64 k, .int .i64 z, .string s] _ RP hu rfl info_val3 ?_)
        | (refine wpList_exec (by rfl) (.bool zb) (exec_eql 33 _ (.tmp 6) (.tmp 7) rfl _ _ rfl rfl guard_val zb (HQ.out _)) ?_)
        | fail)
        go_ret
        exact ⟨by simp, hb0⟩
      · go_wp2_with (first
        | (refine wpList_load_g (by rfl) 33 (.tmp 5) rfl w.heap.size 2 rfl [.int .i64 k, .int .i64 z, .string s] _ RP hu rfl info_val3 ?_)
        | (refine wpList_exec (by rfl) (.bool zb) (exec_eql 33 _ (.tmp 6) (.tmp 7) rfl _ _ rfl rfl guard_val zb (HQ.out _)) ?_)
        | (refine wpList_load_g (by rfl) 33 (.tmp 18) rfl w.heap.size 2 rfl [.int .i64 k, .int .i64 z, .string s] _ RP hu rfl info_val3 ?_)
        | fail)
        refine (HV.out _).mono ?_
        rintro e' w' ⟨rfl, hb⟩
        have B1 := B0.later hb
        have hb1 := hb0.trans (hb.mono hb0.size)
        have q0 := B1.cell (j := 0) rfl
        have q1 := B1.cell (j := 1) rfl
        have q2 := B1.cell (j := 2) rfl
        clear B0 hb0 RP hb B1
        go_wp2_with fail
        go_ret
        exact ⟨by simp, hb1⟩
theorem rnode_op (op : Int) (m k z : Int) (s : ByteArray) (w : World) (h1 : op ≠ 1) (h2 : op ≠ 2) (h3 : op ≠ 3) (h4 : op ≠ 4) (h5 : op ≠ 5) (h6 : op ≠ 6) (h7 : op ≠ 7) (h8 : op ≠ 8) (h9 : op ≠ 9) (h10 : op ≠ 10) (h11 : op ≠ 11) (h12 : op ≠ 12) :
    Calls Tryz.prog 86 #[.agg #[.int .i64 op, .int .i64 m, .int .i64 k, .int .i64 z, .string s]] w fun e w' => e = .returned (.bool (nok (op, m, k, z, s))) ∧ Below w.heap.size w w' := by
  have HV := hid (fun wx : World => rvcheck_any k z s wx)
  have HQ : Hid (∀ wx : World, (Op.equalIn 10000 33 (.agg #[.int .i64 k, .int .i64 z, .string s]) (.agg #[.int .i64 0, .int .i64 0, .string ⟨#[]⟩])).run Tryz.prog wx = .ok (decide ((k, z, s) = zv)) wx) := hid (fun wx => eq_val 9998 (k, z, s) zv wx)
  have B0 := Blk.new w [.int .i64 op, .int .i64 m, .int .i64 k, .int .i64 z, .string s] 73
  have hb0 := (Below.refl w.heap.size w).alloc (Nat.le_refl _) (.cells #[.int .i64 op, .int .i64 m, .int .i64 k, .int .i64 z, .string s] 73)
  have RP := B0.range 2 [.int .i64 k, .int .i64 z, .string s] rfl
  have hu := Tryz.underlying33
  obtain ⟨vb, hvb⟩ : ∃ b, b = vchk (k, z, s) := ⟨_, rfl⟩
  obtain ⟨zb, hzb⟩ : ∃ b, b = decide ((k, z, s) = zv) := ⟨_, rfl⟩
  have hvz := vchk_isz (v := (k, z, s))
  rw [← hvb] at HV hvz
  rw [← hzb] at HQ
  obtain ⟨g0, kg0⟩ : ∃ b, decide (0 ≤ m) = b := ⟨_, rfl⟩
  obtain ⟨g1, kg1⟩ : ∃ b, decide (m < 8) = b := ⟨_, rfl⟩
  have HR : Hid (nok (op, m, k, z, s) = false) := hid (by unfold nok; simp [h1, h2, h3, h4, h5, h6, h7, h8, h9, h10, h11, h12])
  rw [HR.out]
  have e1 : (op == 1) = false := by simpa using h1
  have e2 : (op == 2) = false := by simpa using h2
  have e3 : (op == 3) = false := by simpa using h3
  have e4 : (op == 4) = false := by simpa using h4
  have e5 : (op == 5) = false := by simpa using h5
  have e6 : (op == 6) = false := by simpa using h6
  have e7 : (op == 7) = false := by simpa using h7
  have e8 : (op == 8) = false := by simpa using h8
  have e9 : (op == 9) = false := by simpa using h9
  have e10 : (op == 10) = false := by simpa using h10
  have e11 : (op == 11) = false := by simpa using h11
  have e12 : (op == 12) = false := by simpa using h12
  clear h1 h2 h3 h4 h5 h6 h7 h8 h9 h10 h11 h12
  clear hvz hvb hzb HR
  go_enter Tryz.func86, Tryz.ntmps86
  cases g0
  · go_wp2_with (first
      | (refine wpList_load_g (by rfl) 33 (.tmp 5) rfl w.heap.size 2 rfl [.int .i64 k, .int .i64 z, .string s] _ RP hu rfl info_val3 ?_)
      | (refine wpList_exec (by rfl) (.bool zb) (exec_eql 33 _ (.tmp 6) (.tmp 7) rfl _ _ rfl rfl guard_val zb (HQ.out _)) ?_)
      | fail)
    go_ret
    exact ⟨by simp, hb0⟩
  · cases g1
    · go_wp2_with (first
      | (refine wpList_load_g (by rfl) 33 (.tmp 5) rfl w.heap.size 2 rfl [.int .i64 k, .int .i64 z, .string s] _ RP hu rfl info_val3 ?_)
      | (refine wpList_exec (by rfl) (.bool zb) (exec_eql 33 _ (.tmp 6) (.tmp 7) rfl _ _ rfl rfl guard_val zb (HQ.out _)) ?_)
      | fail)
      go_ret
      exact ⟨by simp, hb0⟩
    · go_wp2_with (first
      | (refine wpList_load_g (by rfl) 33 (.tmp 5) rfl w.heap.size 2 rfl [.int .i64 k, .int .i64 z, .string s] _ RP hu rfl info_val3 ?_)
      | (refine wpList_exec (by rfl) (.bool zb) (exec_eql 33 _ (.tmp 6) (.tmp 7) rfl _ _ rfl rfl guard_val zb (HQ.out _)) ?_)
      | (refine wpList_load_g (by rfl) 33 (.tmp 18) rfl w.heap.size 2 rfl [.int .i64 k, .int .i64 z, .string s] _ RP hu rfl info_val3 ?_)
      | fail)
      refine (HV.out _).mono ?_
      rintro e' w' ⟨rfl, hb⟩
      have B1 := B0.later hb
      have hb1 := hb0.trans (hb.mono hb0.size)
      have q0 := B1.cell (j := 0) rfl
      have q1 := B1.cell (j := 1) rfl
      have q2 := B1.cell (j := 2) rfl
      clear B0 hb0 RP hb B1
      go_wp2_with fail
      go_ret
      exact ⟨by simp, hb1⟩
theorem rnode_any (n : Nd) (w : World) : Calls Tryz.prog 86 #[.agg (ncells n).toArray] w fun e w' => e = .returned (.bool (nok n)) ∧ Below w.heap.size w w' := by
  obtain ⟨op, m, k, z, s⟩ := n
  by_cases h1 : op = 1
  · subst h1; exact rnode_1 m k z s w
  by_cases h2 : op = 2
  · subst h2; exact rnode_2 m k z s w
  by_cases h3 : op = 3
  · subst h3; exact rnode_3 m k z s w
  by_cases h4 : op = 4
  · subst h4; exact rnode_4 m k z s w
  by_cases h5 : op = 5
  · subst h5; exact rnode_5 m k z s w
  by_cases h6 : op = 6
  · subst h6; exact rnode_6 m k z s w
  by_cases h7 : op = 7
  · subst h7; exact rnode_7 m k z s w
  by_cases h8 : op = 8
  · subst h8; exact rnode_8 m k z s w
  by_cases h9 : op = 9
  · subst h9; exact rnode_9 m k z s w
  by_cases h10 : op = 10
  · subst h10; exact rnode_10 m k z s w
  by_cases h11 : op = 11
  · subst h11; exact rnode_11 m k z s w
  by_cases h12 : op = 12
  · subst h12; exact rnode_12 m k z s w
  exact rnode_op op m k z s w h1 h2 h3 h4 h5 h6 h7 h8 h9 h10 h11 h12
theorem ncs_at (l : List Nd) (k : Nat) (hk : k < l.length) (j : Nat) (v : Value) (hj : (ncells l[k])[j]? = some v) : (ncs l)[k * 5 + j]? = some v := by
  have h := ncs_get l k hk
  have hj5 : j < 5 := by
    have := (List.getElem?_eq_some_iff.1 hj).1
    rwa [ncells_len] at this
  rw [← h, List.getElem?_take, if_pos hj5, List.getElem?_drop] at hj
  rw [show k * 5 + j = 5 * k + j by omega]
  exact hj
theorem sees_node {w : World} {B : Nat} {A : Option Addr} {l : List Nd} (hs : Sees w B A (ncs l)) (k : Nat) (hk : k < l.length) :
    ∃ b o, A = some ⟨b, o, none⟩ ∧ b < B ∧ w.cell? ⟨b, o + k * 5, none⟩ = some (.int .i64 l[k].1) ∧ w.cell? ⟨b, o + k * 5 + 1, none⟩ = some (.int .i64 l[k].2.1) ∧ w.rangeAt b (o + k * 5) (ncells l[k]) := by
  obtain ⟨b, o, e, hb, hc⟩ := hs (by rw [ncs_len]; omega)
  have key : ∀ j v, (ncells l[k])[j]? = some v → w.cell? ⟨b, o + k * 5 + j, none⟩ = some v := fun j v hj => by
    have h1 := ncs_at l k hk j v hj
    obtain ⟨h2, h3⟩ := List.getElem?_eq_some_iff.1 h1
    have := hc (k * 5 + j) h2
    rw [h3] at this
    rw [Nat.add_assoc]
    exact this
  exact ⟨b, o, e, hb, key 0 _ rfl, key 1 _ rfl, key⟩
theorem end_step {l : List Nd} {a i k m : Nat} (h : endOf (l.drop a) 1 = (endOf (l.drop i) k).map (· + m)) (hk : k < k + 1 ∧ 0 < k) (hi : i < l.length) :
    endOf (l.drop a) 1 = (endOf (l.drop (i + 1)) (k - 1 + par l[i].1)).map (· + (m + 1)) := by
  obtain ⟨k', rfl⟩ : ∃ k', k = k' + 1 := ⟨k - 1, by omega⟩
  rw [h, List.drop_eq_getElem_cons hi, endOf_cons, Nat.add_sub_cancel, Option.map_map]
  congr 1
  funext x
  simp only [Function.comp]
  omega
theorem end_zero {l : List Nd} {a i m : Nat} (h : endOf (l.drop a) 1 = (endOf (l.drop i) 0).map (· + m)) (hm : i = a + m) : endAt l (a : Int) = (i : Int) := by
  rw [endAt_nat, h, endOf_zero]
  show (a : Int) + ((0 + m : Nat) : Int) = (i : Int)
  omega
theorem end_none {l : List Nd} {a i k m : Nat} (h : endOf (l.drop a) 1 = (endOf (l.drop i) k).map (· + m)) (hi : l.length ≤ i) (hk : 0 < k) : endAt l (a : Int) = -1 := by
  obtain ⟨k', rfl⟩ : ∃ k', k = k' + 1 := ⟨k - 1, by omega⟩
  rw [endAt_nat, h, List.drop_of_length_le hi]
  rfl
theorem end_any (A : Option Addr) (n c : Nat) (l : List Nd) (at_ : Int) (w : World) (B : Nat) (hn : l.length = n) (hs : Sees w B A (ncs l)) (hm : n ≤ 65536) :
    Calls Tryz.prog 76 #[.slice A n c, .int .i64 at_] w fun e w' => e = .returned (.int .i64 (endAt l at_)) ∧ w = w' := by
  by_cases h0 : at_ < 0
  · have HR := hid (endAt_neg l at_ h0)
    have d0 : decide (at_ < 0) = true := by simpa using h0
    clear h0 hs hn
    go_enter Tryz.func76, Tryz.ntmps76
    go_wp2
    go_ret
    exact ⟨by rw [HR.out]; rfl, rfl⟩
  · obtain ⟨a, rfl⟩ : ∃ a : Nat, at_ = a := ⟨at_.toNat, by omega⟩
    have d0 : decide ((a : Int) < 0) = false := by simp
    obtain ⟨R, hR⟩ : ∃ R, R = endAt l (a : Int) := ⟨_, rfl⟩
    rw [← hR]
    have HR := hid hR
    have HN := hid hn
    clear h0 hR hn
    go_enter Tryz.func76, Tryz.ntmps76
    go_wp2_with fail
    go_loop [1, 5] (fun p q => ∃ (i k m : Nat), Hid (i = a + m ∧ (m = 0 ∨ i ≤ n)) ∧ k ≤ m + 1 ∧ p = .int .i64 i ∧ q = .int .i64 k ∧ Hid (endOf (l.drop a) 1 = (endOf (l.drop i) k).map (· + m))) (fun p _ => n - (intOf p).toNat)
    case atStart => exact ⟨a, 1, 0, hid ⟨rfl, .inl rfl⟩, by omega, rfl, rfl, hid (by simp)⟩
    case round =>
      obtain ⟨i, k, m, HI, hkm, rfl, rfl, HE⟩ := hrel
      have hkb : k ≤ 65537 := by have := HI.out; omega
      by_cases hk : k = 0
      · subst hk
        have HRR := hid (HR.out.trans (end_zero HE.out HI.out.1))
        go_wp2_with fail
        go_ret
        exact ⟨by rw [HRR.out]; rfl, rfl⟩
      · have d1 : decide ((0 : Int) < (k : Int)) = true := by simp; omega
        by_cases hin : i < n
        · have d2 : decide ((n : Int) ≤ (i : Int)) = false := by simp; omega
          have hil : i < l.length := by rw [HN.out]; exact hin
          obtain ⟨b, o, rfl, hb, hc, _⟩ := sees_node hs i hil
          have HS := hid (end_step HE.out ⟨by omega, by omega⟩ hil)
          obtain ⟨op, hop⟩ : ∃ op, op = l[i].1 := ⟨_, rfl⟩
          rw [← hop] at hc HS
          have HP := hid (parts_any op w)
          obtain ⟨pp, hpp⟩ : ∃ pp, pp = par op := ⟨_, rfl⟩
          have hp2 : pp ≤ 2 := by rw [hpp]; exact par_le op
          rw [← hpp] at HS HP
          have hM := hid hm
          clear hop hpp
          go_wp2_with fail
          refine HP.out.mono ?_
          rintro e w' ⟨rfl, rfl⟩
          go_wp2_with fail
          go_round
          case rel => exact ⟨i + 1, k - 1 + pp, m + 1, hid ⟨by have := HI.out.1; omega, .inr (by omega)⟩, by omega, by go_num, by go_num, HS⟩
          case measure => simp [intOf]; omega
        · have d2 : decide ((n : Int) ≤ (i : Int)) = true := by simp; omega
          have HRR := hid (HR.out.trans (end_none HE.out (by rw [HN.out]; omega) (by omega)))
          go_wp2_with fail
          go_ret
          exact ⟨by rw [HRR.out]; rfl, rfl⟩
theorem rend_any (A : Option Addr) (n c : Nat) (l : List Nd) (at_ : Int) (w : World) (B : Nat) (hn : l.length = n) (hs : Sees w B A (ncs l)) (hm : n ≤ 65536) :
    Calls Tryz.prog 87 #[.slice A n c, .int .i64 at_] w fun e w' => e = .returned (.int .i64 (endAt l at_)) ∧ w = w' := by
  by_cases h0 : at_ < 0
  · have HR := hid (endAt_neg l at_ h0)
    have d0 : decide (at_ < 0) = true := by simpa using h0
    clear h0 hs hn
    go_enter Tryz.func87, Tryz.ntmps87
    go_wp2
    go_ret
    exact ⟨by rw [HR.out]; rfl, rfl⟩
  · obtain ⟨a, rfl⟩ : ∃ a : Nat, at_ = a := ⟨at_.toNat, by omega⟩
    have d0 : decide ((a : Int) < 0) = false := by simp
    obtain ⟨R, hR⟩ : ∃ R, R = endAt l (a : Int) := ⟨_, rfl⟩
    rw [← hR]
    have HR := hid hR
    have HN := hid hn
    clear h0 hR hn
    go_enter Tryz.func87, Tryz.ntmps87
    go_wp2_with fail
    go_loop [1, 5] (fun p q => ∃ (i k m : Nat), Hid (i = a + m ∧ (m = 0 ∨ i ≤ n)) ∧ k ≤ m + 1 ∧ p = .int .i64 i ∧ q = .int .i64 k ∧ Hid (endOf (l.drop a) 1 = (endOf (l.drop i) k).map (· + m))) (fun p _ => n - (intOf p).toNat)
    case atStart => exact ⟨a, 1, 0, hid ⟨rfl, .inl rfl⟩, by omega, rfl, rfl, hid (by simp)⟩
    case round =>
      obtain ⟨i, k, m, HI, hkm, rfl, rfl, HE⟩ := hrel
      have hkb : k ≤ 65537 := by have := HI.out; omega
      by_cases hin : i < n
      · have d2 : decide ((i : Int) < (n : Int)) = true := by simp; omega
        by_cases hk : k = 0
        · subst hk
          have HRR := hid (HR.out.trans (end_zero HE.out HI.out.1))
          go_wp2_with fail
          go_ret
          exact ⟨by rw [HRR.out]; rfl, rfl⟩
        · have d1 : decide ((0 : Int) < (k : Int)) = true := by simp; omega
          have hil : i < l.length := by rw [HN.out]; exact hin
          obtain ⟨b, o, rfl, hb, hc, _⟩ := sees_node hs i hil
          have HS := hid (end_step HE.out ⟨by omega, by omega⟩ hil)
          obtain ⟨op, hop⟩ : ∃ op, op = l[i].1 := ⟨_, rfl⟩
          rw [← hop] at hc HS
          have HP := hid (rparts_any op w)
          obtain ⟨pp, hpp⟩ : ∃ pp, pp = par op := ⟨_, rfl⟩
          have hp2 : pp ≤ 2 := by rw [hpp]; exact par_le op
          rw [← hpp] at HS HP
          clear hop hpp
          go_wp2_with fail
          refine HP.out.mono ?_
          rintro e w' ⟨rfl, rfl⟩
          go_wp2_with fail
          go_round
          case rel => exact ⟨i + 1, k - 1 + pp, m + 1, hid ⟨by have := HI.out.1; omega, .inr (by omega)⟩, by omega, by go_num, by go_num, HS⟩
          case measure => simp [intOf]; omega
      · have d2 : decide ((i : Int) < (n : Int)) = false := by simp; omega
        by_cases hk : k = 0
        · subst hk
          have HRR := hid (HR.out.trans (end_zero HE.out HI.out.1))
          go_wp2_with fail
          go_ret
          exact ⟨by rw [HRR.out]; rfl, rfl⟩
        · have d1 : decide ((0 : Int) < (k : Int)) = true := by simp; omega
          have HRR := hid (HR.out.trans (end_none HE.out (by rw [HN.out]; omega) (by omega)))
          go_wp2_with fail
          go_ret
          exact ⟨by rw [HRR.out]; rfl, rfl⟩
end Go.Proofs.YtnhcjadkbogioaaGreat
