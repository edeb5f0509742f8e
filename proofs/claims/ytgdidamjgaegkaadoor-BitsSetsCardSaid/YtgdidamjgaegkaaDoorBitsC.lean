/- Layer 3: the document's With, Without and One of any number; bits.Without, Of, Count: what each returns. -/
import Derived.Test.YtgdidamjgaegkaaDoorSetJ
namespace Go.Proofs.YtgdidamjgaegkaaDoor
set_option linter.unusedVariables false
open Go Go.RowKit BitM MskM

/-- A set without a number. -/
def del (x : BitVec 32) (n : Int) : BitVec 32 := x &&& ~~~ one n
theorem del_out {x : BitVec 32} {n : Int} (h : has x n = false) : del x n = x := by
  unfold del
  apply BitVec.eq_of_getLsbD_eq
  intro i hi
  simp only [BitVec.getLsbD_and, BitVec.getLsbD_not, hi, decide_true, Bool.true_and]
  by_cases hn : 0 ≤ n ∧ n < 32
  · obtain ⟨k, rfl⟩ := Int.eq_ofNat_of_zero_le hn.1
    have hk : k < 32 := by omega
    rw [has_in x hk] at h
    rw [one_in hk, BitVec.getLsbD_twoPow]
    by_cases e : k = i
    · subst e; simp [h]
    · simp [e]
  · rw [one_out hn]; simp
theorem del_in {x : BitVec 32} {k : Nat} (hk : k < 32) (h : has x (k : Int) = true) : (del x k).toNat + 2 ^ k = x.toNat := by
  have hb : (del x k).getLsbD k = false := by
    unfold del
    rw [one_in hk]
    simp [hk]
  have h2 := (put_add_nat hk hb).1
  rw [h2]
  congr 1
  apply BitVec.eq_of_getLsbD_eq
  intro i hi
  rw [has_in x hk] at h
  unfold del
  rw [one_in hk]
  simp only [BitVec.getLsbD_or, BitVec.getLsbD_and, BitVec.getLsbD_not, hi, decide_true, Bool.true_and, BitVec.getLsbD_twoPow]
  by_cases e : k = i
  · subst e; simp [h]
  · simp [e]

theorem without_any (x : BitVec 32) (n : Int) (w : World) : Calls Tryd.prog 18 #[.int .u32 (x.toNat : Int), .int .i64 n] w fun e w' => e = .returned (.int .u32 ((del x n).toNat : Int)) ∧ w = w' := by
  have HB := Lib.hid (bit_any n w)
  have H1 := BitM.u32_andNot x (one n)
  unfold del
  rw [← H1]
  generalize (one n).toNat = o1 at *
  generalize x.toNat = x1 at *
  clear H1
  go_enter Tryd.func18, Tryd.ntmps18
  go_wp2_with fail
  refine HB.out.mono ?_
  rintro e w1 ⟨rfl, rfl⟩
  go_wp2_with fail
  go_ret
  exact ⟨rfl, rfl⟩

theorem rone_out (n : Int) (h : ¬ (0 ≤ n ∧ n < 32)) (w : World) : Calls Tryd.prog 70 #[.int .i64 n] w fun e w' => e = .returned (.int .u32 0) ∧ w = w' := by
  by_cases h0 : n < 0
  · go_enter Tryd.func70, Tryd.ntmps70
    go_wp2
    go_ret
    exact ⟨rfl, rfl⟩
  · have h1 : 31 < n := by omega
    go_enter Tryd.func70, Tryd.ntmps70
    go_wp2
    go_ret
    exact ⟨rfl, rfl⟩
theorem rwith_all (x : BitVec 32) (n : Int) (w : World) : Calls Tryd.prog 17 #[.int .u32 (x.toNat : Int), .int .i64 n] w fun e w' => e = .returned (.int .u32 ((put x n).toNat : Int)) ∧ w = w' := by
  by_cases h : 0 ≤ n ∧ n < 32
  · obtain ⟨k, rfl⟩ := Int.eq_ofNat_of_zero_le h.1
    exact rwith_any x k (by omega) w
  · have HH := Lib.hid (rhas_any x n w)
    rw [has_out x h] at HH
    have HO := Lib.hid (rone_out n h w)
    have e : put x n = x := by unfold put; rw [one_out h]; simp
    rw [e]
    have hX := x.isLt
    obtain ⟨X, hX2⟩ : ∃ X, X = x.toNat := ⟨_, rfl⟩
    rw [← hX2] at HH hX ⊢
    clear e hX2 h
    go_enter Tryd.func17, Tryd.ntmps17
    go_wp2_with fail
    refine HH.out.mono ?_
    rintro e w' ⟨rfl, rfl⟩
    go_wp2_with fail
    refine HO.out.mono ?_
    rintro e w' ⟨rfl, rfl⟩
    go_wp2_with fail
    go_ret
    exact ⟨by go_num, rfl⟩
theorem rwithout_any (x : BitVec 32) (n : Int) (w : World) : Calls Tryd.prog 19 #[.int .u32 (x.toNat : Int), .int .i64 n] w fun e w' => e = .returned (.int .u32 ((del x n).toNat : Int)) ∧ w = w' := by
  have HH := Lib.hid (rhas_any x n w)
  cases hb : has x n with
  | false =>
    rw [hb] at HH
    rw [del_out hb]
    clear hb
    go_enter Tryd.func19, Tryd.ntmps19
    go_wp2_with fail
    refine HH.out.mono ?_
    rintro e w' ⟨rfl, rfl⟩
    go_wp2_with fail
    go_ret
    exact ⟨rfl, rfl⟩
  | true =>
    rw [hb] at HH
    have hn : 0 ≤ n ∧ n < 32 := by
      by_cases h : 0 ≤ n ∧ n < 32
      · exact h
      · rw [has_out x h] at hb; cases hb
    obtain ⟨k, rfl⟩ := Int.eq_ofNat_of_zero_le hn.1
    have hk : k < 32 := by omega
    have HO := Lib.hid (rone_any k hk w)
    have h2 := del_in hk hb
    have hX := x.isLt
    obtain ⟨m, hm⟩ : ∃ m, m = 2 ^ k := ⟨_, rfl⟩
    obtain ⟨r, hr⟩ : ∃ r, r = (del x k).toNat := ⟨_, rfl⟩
    obtain ⟨X, hX2⟩ : ∃ X, X = x.toNat := ⟨_, rfl⟩
    rw [← hm] at HO h2
    rw [← hr] at h2 ⊢
    rw [← hX2] at HH hX h2 ⊢
    have HR : Hid ((r : Int) = (X : Int) - (m : Int)) := Lib.hid (by omega)
    have h3 : m ≤ X := by omega
    clear hb h2 hm hr hX2
    go_enter Tryd.func19, Tryd.ntmps19
    go_wp2_with fail
    refine HH.out.mono ?_
    rintro e w' ⟨rfl, rfl⟩
    go_wp2_with fail
    refine HO.out.mono ?_
    rintro e w' ⟨rfl, rfl⟩
    go_wp2_with fail
    go_ret
    rw [HR.out]
    exact ⟨by go_num, rfl⟩


/-- Go's table of how many bits a byte has. -/
def popl : List UInt8 := (([0, 1, 1, 2, 1, 2, 2, 3, 1, 2, 2, 3, 2, 3, 3, 4, 1, 2, 2, 3, 2, 3, 3, 4, 2, 3, 3, 4, 3, 4, 4, 5, 1, 2, 2, 3, 2, 3, 3, 4, 2, 3, 3, 4, 3, 4, 4, 5, 2, 3, 3, 4, 3, 4, 4, 5, 3, 4, 4, 5, 4, 5, 5, 6] : List UInt8).append [1, 2, 2, 3, 2, 3, 3, 4, 2, 3, 3, 4, 3, 4, 4, 5, 2, 3, 3, 4, 3, 4, 4, 5, 3, 4, 4, 5, 4, 5, 5, 6, 2, 3, 3, 4, 3, 4, 4, 5, 3, 4, 4, 5, 4, 5, 5, 6, 3, 4, 4, 5, 4, 5, 5, 6, 4, 5, 5, 6, 5, 6, 6, 7]).append ((([1, 2, 2, 3, 2, 3, 3, 4, 2, 3, 3, 4, 3, 4, 4, 5, 2, 3, 3, 4, 3, 4, 4, 5, 3, 4, 4, 5, 4, 5, 5, 6, 2, 3, 3, 4, 3, 4, 4, 5, 3, 4, 4, 5, 4, 5, 5, 6, 3, 4, 4, 5, 4, 5, 5, 6, 4, 5, 5, 6, 5, 6, 6, 7] : List UInt8)).append [2, 3, 3, 4, 3, 4, 4, 5, 3, 4, 4, 5, 4, 5, 5, 6, 3, 4, 4, 5, 4, 5, 5, 6, 4, 5, 5, 6, 5, 6, 6, 7, 3, 4, 4, 5, 4, 5, 5, 6, 4, 5, 5, 6, 5, 6, 6, 7, 4, 5, 5, 6, 5, 6, 6, 7, 5, 6, 6, 7, 6, 7, 7, 8])
def popb : ByteArray := ⟨popl.toArray⟩
/-- How many of the first k bits a number has. -/
def cnt (m : Nat) (k : Nat) : Nat := ((List.range k).filter fun i => m.testBit i).length
theorem popb_size : popb.size = 256 := by decide +kernel
theorem popb_at (i : Nat) (h : i < popb.size) : (popb[i]'h).toNat = cnt i 8 := by
  have key : ∀ i : Fin 256, (popl.getD i.val 0).toNat = cnt i.val 8 := by decide +kernel
  have h2 := popb_size
  have := key ⟨i, by omega⟩
  rw [← this]
  congr 1
  have hl : i < popl.length := h
  rw [List.getD_eq_getElem?_getD, List.getElem?_eq_getElem hl]
  rfl
theorem cnt_le (m k : Nat) : cnt m k ≤ k := by
  unfold cnt
  have := List.length_filter_le (fun i => m.testBit i) (List.range k)
  simpa using this
theorem cnt_add (m a b : Nat) : cnt m (a + b) = cnt m a + cnt (m / 2 ^ a) b := by
  unfold cnt
  rw [List.range_add, List.filter_append, List.length_append, List.filter_map, List.length_map]
  congr 2
  refine List.filter_congr fun i _ => ?_
  simp [Nat.testBit_div_two_pow, Nat.add_comm]
theorem cnt_mod (m k : Nat) : cnt (m % 2 ^ k) k = cnt m k := by
  unfold cnt
  congr 1
  refine List.filter_congr fun i hi => ?_
  rw [Nat.testBit_mod_two_pow, decide_eq_true (by simpa using hi), Bool.true_and]
theorem lst_cnt (x : BitVec 32) : (lst x 32).length = cnt x.toNat 32 := by
  unfold lst cnt
  rw [List.length_map]
  rw [List.filter_congr fun i hi => has_in x (k := i) (by simpa using hi)]
  rfl
theorem cnt_32 (m : Nat) (h : m < 4294967296) : cnt m 32 = cnt (m / 16777216) 8 + cnt (m / 65536 % 256) 8 + cnt (m / 256 % 256) 8 + cnt (m % 256) 8 := by
  have e1 := cnt_add m 24 8
  have e2 := cnt_add m 16 8
  have e3 := cnt_add m 8 8
  have e4 := cnt_mod m 8
  have e5 := cnt_mod (m / 2 ^ 8) 8
  have e6 := cnt_mod (m / 2 ^ 16) 8
  change cnt m 32 = cnt m 24 + cnt (m / 16777216) 8 at e1
  change cnt m 24 = cnt m 16 + cnt (m / 65536) 8 at e2
  change cnt m 16 = cnt m 8 + cnt (m / 256) 8 at e3
  change cnt (m % 256) 8 = cnt m 8 at e4
  change cnt (m / 256 % 256) 8 = cnt (m / 256) 8 at e5
  change cnt (m / 65536 % 256) 8 = cnt (m / 65536) 8 at e6
  omega
theorem and255 (m : Nat) (h : m < 4294967296) : bits .and .u32 (m : Int) 255 = ((m % 256 : Nat) : Int) := by
  have h1 := BitM.u32_and (BitVec.ofNat 32 m) 255#32
  have e1 : (BitVec.ofNat 32 m).toNat = m := by rw [BitVec.toNat_ofNat]; exact Nat.mod_eq_of_lt h
  rw [e1, BitVec.toNat_and, e1] at h1
  have e2 : (255#32 : BitVec 32).toNat = 2 ^ 8 - 1 := rfl
  rw [e2, Nat.and_two_pow_sub_one_eq_mod] at h1
  exact h1
theorem exec_pop {a : Act} {op : Oper} (x : Operand) (i : Nat) (hi : i < 256) (ho : op.op = .index 9 (.const (.string popb)) x) (hx : a.eval x = .int .u32 (i : Int)) (w : World) :
    (execOp a.eval op).run Tryd.prog w = .ok (.value (.int .u8 ((cnt i 8 : Nat) : Int))) w := by
  have hs : i < popb.size := by rw [popb_size]; exact hi
  have e1 : a.eval (.const (.string popb)) = .string popb := rfl
  have hc : 0 ≤ (i : Int) ∧ (i : Int) < popb.size := by omega
  unfold execOp
  simp only [ho, hx, e1, Sem.run_bind, run_index_string w 9 popb .u32 (i : Int) Tryd.underlying9]
  rw [dif_pos hc]
  simp only [Result.andThen_ok, Sem.run_pure, Int.toNat_natCast]
  rw [popb_at i hs]

set_option maxRecDepth 100000 in
set_option maxHeartbeats 4000000 in
theorem ones_any (x : BitVec 32) (w : World) : Calls Tryd.prog 72 #[.int .u32 (x.toNat : Int)] w fun e w' => e = .returned (.int .i64 (((lst x 32).length : Nat) : Int)) ∧ Below w.heap.size w w' := by
  have HC := Lib.hid (cnt_32 x.toNat x.isLt)
  rw [lst_cnt]
  have hx : x.toNat < 4294967296 := x.isLt
  obtain ⟨R, hR⟩ : ∃ R, R = cnt x.toNat 32 := ⟨_, rfl⟩
  rw [← hR] at HC ⊢
  obtain ⟨m, hm⟩ : ∃ m, m = x.toNat := ⟨_, rfl⟩
  rw [← hm] at HC hx ⊢
  clear hR hm
  obtain ⟨b3, hb3⟩ : ∃ b, b = m / 16777216 := ⟨_, rfl⟩
  obtain ⟨b2, hb2⟩ : ∃ b, b = m / 65536 := ⟨_, rfl⟩
  obtain ⟨b1, hb1⟩ : ∃ b, b = m / 256 := ⟨_, rfl⟩
  rw [← hb3, ← hb2, ← hb1] at HC
  have c3 := cnt_le b3 8
  have c2 := cnt_le (b2 % 256) 8
  have c1 := cnt_le (b1 % 256) 8
  have c0 := cnt_le (m % 256) 8
  have l3 : b3 < 256 := by omega
  have l2 : b2 < 4294967296 := by omega
  have l1 : b1 < 4294967296 := by omega
  go_enter Tryd.func72, Tryd.ntmps72
  go_wp2_with fail
  refine wp_region_steady [] 21 (by kernel_rfl) (by kernel_rfl) (by kernel_rfl) (by rfl) ?_
  iterate 1 (refine wpG_quiet (by rfl) (by rfl) (by rfl) (fun K hK => ?_); go_big_quiet_op; refine hK _ ?_; clear hK K)
  refine wpG_run (by rfl) (by rfl) (.int .u32 (b3 : Int)) (fun w1 hl => by simp [go_sem, hb3]) ?_
  simp only [Act.put, List.setIfInBounds_toArray, List.set_cons_zero, List.set_cons_succ]
  refine wpG_run (by rfl) (by rfl) (.int .u8 ((cnt b3 8 : Nat) : Int)) (fun w1 hl => exec_pop (.tmp 4) b3 l3 rfl rfl w1) ?_
  simp only [Act.put, List.setIfInBounds_toArray, List.set_cons_zero, List.set_cons_succ]
  iterate 1 (refine wpG_quiet (by rfl) (by rfl) (by rfl) (fun K hK => ?_); go_big_quiet_op; refine hK _ ?_; clear hK K)
  refine wpG_run (by rfl) (by rfl) (.int .u32 (b2 : Int)) (fun w1 hl => by simp [go_sem, hb2]) ?_
  simp only [Act.put, List.setIfInBounds_toArray, List.set_cons_zero, List.set_cons_succ]
  refine wpG_run (by rfl) (by rfl) (.int .u32 ((b2 % 256 : Nat) : Int)) (fun w1 hl => by simp [go_sem]; exact and255 b2 l2) ?_
  simp only [Act.put, List.setIfInBounds_toArray, List.set_cons_zero, List.set_cons_succ]
  refine wpG_run (by rfl) (by rfl) (.int .u8 ((cnt (b2 % 256) 8 : Nat) : Int)) (fun w1 hl => exec_pop (.tmp 8) (b2 % 256) (by omega) rfl rfl w1) ?_
  simp only [Act.put, List.setIfInBounds_toArray, List.set_cons_zero, List.set_cons_succ]
  refine wpG_run (by rfl) (by rfl) (.int .u8 ((cnt b3 8 + cnt (b2 % 256) 8 : Nat) : Int)) (fun w1 hl => by simp [go_sem, IntKind.wrap, IntKind.signed, IntKind.bits]; omega) ?_
  simp only [Act.put, List.setIfInBounds_toArray, List.set_cons_zero, List.set_cons_succ]
  iterate 1 (refine wpG_quiet (by rfl) (by rfl) (by rfl) (fun K hK => ?_); go_big_quiet_op; refine hK _ ?_; clear hK K)
  refine wpG_run (by rfl) (by rfl) (.int .u32 (b1 : Int)) (fun w1 hl => by simp [go_sem, hb1]) ?_
  simp only [Act.put, List.setIfInBounds_toArray, List.set_cons_zero, List.set_cons_succ]
  refine wpG_run (by rfl) (by rfl) (.int .u32 ((b1 % 256 : Nat) : Int)) (fun w1 hl => by simp [go_sem]; exact and255 b1 l1) ?_
  simp only [Act.put, List.setIfInBounds_toArray, List.set_cons_zero, List.set_cons_succ]
  refine wpG_run (by rfl) (by rfl) (.int .u8 ((cnt (b1 % 256) 8 : Nat) : Int)) (fun w1 hl => exec_pop (.tmp 13) (b1 % 256) (by omega) rfl rfl w1) ?_
  simp only [Act.put, List.setIfInBounds_toArray, List.set_cons_zero, List.set_cons_succ]
  refine wpG_run (by rfl) (by rfl) (.int .u8 ((cnt b3 8 + cnt (b2 % 256) 8 + cnt (b1 % 256) 8 : Nat) : Int)) (fun w1 hl => by simp [go_sem, IntKind.wrap, IntKind.signed, IntKind.bits]; omega) ?_
  simp only [Act.put, List.setIfInBounds_toArray, List.set_cons_zero, List.set_cons_succ]
  iterate 1 (refine wpG_quiet (by rfl) (by rfl) (by rfl) (fun K hK => ?_); go_big_quiet_op; refine hK _ ?_; clear hK K)
  refine wpG_run (by rfl) (by rfl) (.int .u32 ((m % 256 : Nat) : Int)) (fun w1 hl => by simp [go_sem]; exact and255 m hx) ?_
  simp only [Act.put, List.setIfInBounds_toArray, List.set_cons_zero, List.set_cons_succ]
  refine wpG_run (by rfl) (by rfl) (.int .u8 ((cnt (m % 256) 8 : Nat) : Int)) (fun w1 hl => exec_pop (.tmp 17) (m % 256) (by omega) rfl rfl w1) ?_
  simp only [Act.put, List.setIfInBounds_toArray, List.set_cons_zero, List.set_cons_succ]
  refine wpG_run (by rfl) (by rfl) (.int .u8 ((cnt b3 8 + cnt (b2 % 256) 8 + cnt (b1 % 256) 8 + cnt (m % 256) 8 : Nat) : Int)) (fun w1 hl => by simp [go_sem, IntKind.wrap, IntKind.signed, IntKind.bits]; omega) ?_
  simp only [Act.put, List.setIfInBounds_toArray, List.set_cons_zero, List.set_cons_succ]
  refine wpG_run (by rfl) (by rfl) (.int .i64 ((cnt b3 8 + cnt (b2 % 256) 8 + cnt (b1 % 256) 8 + cnt (m % 256) 8 : Nat) : Int)) (fun w1 hl => by simp [go_sem, IntKind.wrap, IntKind.signed, IntKind.bits]; omega) ?_
  simp only [Act.put, List.setIfInBounds_toArray, List.set_cons_zero, List.set_cons_succ]
  iterate 1 (refine wpG_quiet (by rfl) (by rfl) (by rfl) (fun K hK => ?_); go_big_quiet_op; refine hK _ ?_; clear hK K)
  refine wpG_nil fun w1 hl _ => ?_
  go_wp2_with fail
  go_ret
  exact ⟨by rw [HC.out]; rfl, hl⟩
end Go.Proofs.YtgdidamjgaegkaaDoor
