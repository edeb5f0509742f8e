/- bits.Each as an iterator, slices.Collect over it, and mask.Fields: what each returns. -/
import Derived.RangeFuncNested
import Derived.RangeFuncBound
import Derived.RangeFuncCalls
import Derived.RangeFuncLeaves
import Derived.RangeFuncBox
import Derived.Shelf.Abstract
import Derived.Shelf.RegionOpen
import Derived.OwnWalkIn
import Derived.TacticsInMore
import Derived.LoopNIn
import Derived.LoopIn
import Derived.Test.YtgpbglmlakildaaG1
import Derived.Deep.RegionHeld3
namespace Go.Proofs.Ytgpbglmlakildaa
set_option linter.unusedVariables false
open Go Go.RowKit Go.Shelf BitM
attribute [local go_sem] Oper.semAt_some

/-- The numbers of a set below k, rising. -/
def lst (x : BitVec 32) (k : Nat) : List Int := ((List.range k).filter fun i : Nat => has x (i : Int)).map fun i : Nat => (i : Int)
theorem lst_succ (x : BitVec 32) (k : Nat) : lst x (k + 1) = lst x k ++ if has x (k : Int) = true then [(k : Int)] else [] := by
  unfold lst
  rw [List.range_succ, List.filter_append, List.map_append]
  congr 1
  cases h : has x (k : Int) <;> simp [h]
theorem lst_len (x : BitVec 32) (k : Nat) : (lst x k).length ≤ k := by
  unfold lst
  rw [List.length_map]
  have := List.length_filter_le (fun i : Nat => has x (i : Int)) (List.range k)
  simpa using this
theorem lst_pre (x : BitVec 32) {j k : Nat} (h : j ≤ k) : lst x j <+: lst x k := by
  induction k with
  | zero => obtain rfl : j = 0 := by omega
            exact List.prefix_refl _
  | succ k ih =>
    by_cases e : j = k + 1
    · subst e; exact List.prefix_refl _
    · exact (ih (by omega)).trans (by rw [lst_succ]; exact List.prefix_append _ _)

set_option maxRecDepth 100000 in
set_option maxHeartbeats 1000000 in
theorem each1_in (n : Nat) (hn : 1 ≤ n) (l Bn n₀ : Nat) (x : BitVec 32) (J Jx : List Int → World → Prop) (hB : Bn < n₀)
    (hY : ∀ pre y W, J pre W → pre.length < 32 → YieldAt Fence.wide (n - 1) Try.prog l #[.int .i64 y] W fun e W' =>
      (e = .returned (.bool true) ∧ J (pre ++ [y]) W' ∧ Below n₀ W W') ∨ (e = .returned (.bool false) ∧ Jx (pre ++ [y]) W'))
    (W : World) (hBn : W.cell? ⟨Bn, 0, none⟩ = some (.int .u32 (x.toNat : Int))) (h0 : J [] W) :
    CallsIn Fence.wide n Try.prog 122 #[.func (.yield l) #[] #[], .pointer (some ⟨Bn, 0, none⟩)] W fun e W' => (∃ v, e = .returned v) ∧
      ((∃ ys, ys = lst x 32 ∧ J ys W') ∨ (∃ pre, pre <+: lst x 32 ∧ Jx pre W')) := by
  refine callsIn_of_wp Try.func122 rfl trivial ?_ rfl
  simp only [Try.ntmps122, List.size_toArray, List.length_cons, List.length_nil, Nat.reduceAdd, Nat.reduceSub, Array.replicate_succ, Array.replicate_zero, List.push_toArray, List.append_toArray, List.nil_append, List.cons_append]
  gi_wp2
  gi_loopw [4] (fun i wr => ∃ k : Nat, k ≤ 32 ∧ i = .int .i64 k ∧ J (lst x k) wr ∧ wr.cell? ⟨Bn, 0, none⟩ = some (.int .u32 (x.toNat : Int)))
    (fun i wr => 32 - (intOf i).toNat)
  case atStart => exact ⟨0, by omega, rfl, h0, hBn⟩
  case round =>
    obtain ⟨k, hk, rfl, hJ, hc⟩ := hrel
    by_cases hlt : k < 32
    · have d1 : decide ((k : Int) < 32) = true := by simp; omega
      cases hb : has x (k : Int) with
      | true =>
        have HS := Lib.hid (show lst x (k + 1) = lst x k ++ [(k : Int)] from by rw [lst_succ, hb]; rfl)
        have hlen := lst_len x k
        obtain ⟨fn, tmps, assign, body, hy, hR⟩ := hY (lst x k) (k : Int) wr hJ (by omega)
        have HH := Lib.hid (has_any x (k : Int) wr)
        rw [hb] at HH
        clear hb
        gi_wp2_with fail
        refine ⟨trivial, (callsIn_wide.2 HH.out).mono ?_⟩
        rintro e w' ⟨rfl, rfl⟩
        gi_wp2
        refine hR.mono ?_
        rintro e W3 (⟨rfl, hJ3, hk3⟩ | ⟨rfl, hJx3⟩)
        · have hc3 := (hk3.cell (p := ⟨Bn, 0, none⟩) hB).trans hc
          gi_wp2
          go_roundw
          case rel => exact ⟨k + 1, by omega, by go_num, by rw [HS.out]; exact hJ3, hc3⟩
          case measure => simp [intOf]; omega
        · gi_wp2
          refine bodyPost_ret (results_none rfl _ _ _) rfl ?_
          exact ⟨⟨_, rfl⟩, .inr ⟨lst x k ++ [(k : Int)], by rw [← HS.out]; exact lst_pre x (by omega), hJx3⟩⟩
      | false =>
        have HS := Lib.hid (show lst x (k + 1) = lst x k from by rw [lst_succ, hb]; simp)
        have HH := Lib.hid (has_any x (k : Int) wr)
        rw [hb] at HH
        clear hb
        gi_wp2_with fail
        refine ⟨trivial, (callsIn_wide.2 HH.out).mono ?_⟩
        rintro e w' ⟨rfl, rfl⟩
        gi_wp2
        refine ⟨fun _ h => (by cases h), ?_⟩
        gi_wp2
        go_roundw
        case rel => exact ⟨k + 1, by omega, by go_num, by rw [HS.out]; exact hJ, hc⟩
        case measure => simp [intOf]; omega
    · obtain rfl : k = 32 := by omega
      gi_wp2
      go_end0
      exact ⟨⟨_, rfl⟩, .inl ⟨_, rfl, hJ⟩⟩

theorem each_any (x : BitVec 32) (w : World) : Calls Try.prog 119 #[.int .u32 (x.toNat : Int)] w fun e w' =>
    e = .returned (.func (.func 122) #[] #[.pointer (some ⟨w.heap.size, 0, none⟩)]) ∧ w' = w.alloc (.cells #[.int .u32 (x.toNat : Int)] 58) := by
  go_enter Try.func119, Try.ntmps119
  go_wp2
  go_ret
  exact ⟨rfl, rfl⟩

theorem each_stops (n : Nat) (hn : 1 ≤ n) (Bn n₀ : Nat) (x : BitVec 32) (w : World) (hBn : Bn < w.heap.size) (hB : Bn < n₀) (hc : w.cell? ⟨Bn, 0, none⟩ = some (.int .u32 (x.toNat : Int))) :
    SeqStopsK Fence.wide n Try.prog 122 #[.pointer (some ⟨Bn, 0, none⟩)] (fun y : Int => #[Value.int .i64 y]) (Below n₀) (fun ys => ys = lst x 32) (fun pre => pre <+: lst x 32) 32 w :=
  fun l J Jx W hW _ _ hY h0 => each1_in n hn l Bn n₀ x J Jx hB hY W ((hW.cell (p := ⟨Bn, 0, none⟩) hBn).trans hc) h0

theorem info_int : (Try.prog.info? 3).map (fun i => (i.zero, i.size, i.bytes)) = some (some (.int .i64 0), 1, 8) := by kernel_rfl

set_option maxRecDepth 100000 in
set_option maxHeartbeats 2000000 in
theorem append_seq (x : BitVec 32) (Bn : Nat) (w : World) (hBn : Bn < w.heap.size) (hc : w.cell? ⟨Bn, 0, none⟩ = some (.int .u32 (x.toNat : Int))) :
    Calls Try.prog 121 #[.slice none 0 0, .func (.func 122) #[] #[.pointer (some ⟨Bn, 0, none⟩)]] w fun e W' =>
      ∃ v, e = .returned v ∧ W'.ownsRow w.heap.size 3 1 v (lst x 32).length ((lst x 32).map (Value.int .i64)) ∧ Below w.heap.size w W' := by
  refine (callsIn_wide (n := 5)).1 ?_
  obtain ⟨i0, hi, hz0, hz1, hz2⟩ := info_parts info_int
  refine callsIn_of_wp_marks Try.func121 rfl trivial ?_ rfl
  simp only [Try.ntmps121, List.size_toArray, List.length_cons, List.length_nil, Nat.reduceAdd, Nat.reduceSub, Array.replicate_succ, Array.replicate_zero, List.push_toArray, List.append_toArray, List.nil_append, List.cons_append]
  gi_wp2
  have bO := Boxed.new w 73 (.slice none 0 0)
  have hB0 : Below w.heap.size w (w.alloc (.cells #[.slice none 0 0] 73)) := (Below.refl _ w).alloc (Nat.le_refl _) _
  refine wpIn_rangeFunc_ownG (F := Fence.wide) rfl (by omega) (gf := 122) (lb := #[.pointer (some ⟨Bn, 0, none⟩)]) rfl trivial (enters_of Try.func122 (by kernel_rfl) rfl)
    (each_stops (5 - 1) (by omega) Bn w.heap.size x (w.alloc (.cells #[.slice none 0 0] 73)) (by simp; omega) hBn ((hB0.cell (p := ⟨Bn, 0, none⟩) hBn).trans hc)) belowK_t (belowK_b (by simp)) (Below.refl _ _) (fun _ => rfl)
    (fun pre W => (∃ v, Boxed W w.heap.size 73 v ∧ W.ownsRow w.heap.size 3 1 v pre.length (pre.map (Value.int .i64)) ∧ True) ∧ Below w.heap.size w W)
    (fun _ _ _ => False)
    (OwnFrom.and (Own.from (holdsRow_own w.heap.size w.heap.size 73 3 1 (fun pre : List Int => pre.length) (fun pre => pre.map (Value.int .i64)) (fun _ _ => True)) _) (ownFrom_below (Nat.le_refl _) (by simp)))
    (fun _ _ _ _ _ hs _ _ => hs)
    ⟨⟨_, bO, World.ownsRow_nil _ _ _ _, trivial⟩, hB0⟩
    (fun y => { tmps := #[.slice none 0 0, .func (.func 122) #[] #[.pointer (some ⟨Bn, 0, none⟩)], .pointer (some ⟨w.heap.size, 0, none⟩), undef, .slice none 0 0, .int .i64 y, .func (.func 122) #[] #[.pointer (some ⟨Bn, 0, none⟩)], .int .i64 y, undef, undef, undef, undef, undef], defers := [] }) ?assign ?body ?done ?stop
  case assign =>
    intro l y W K hK
    gi_wp2
    exact hK
  case body =>
    rintro l pre y W ⟨⟨v, hv, hrow, _⟩, hB⟩ hlt
    have hc := hv.cell
    have hm63 : pre.length + 1 ≤ maxLen := by unfold maxLen; omega
    gi_wp2_with (gi_at_builtin; refine wpListIn_append_own _ rfl _ _ 73 rfl w.heap.size 3 i0 (.int .i64 0) 1 8 Try.underlying73 hi hz0 hz1 hz2 rfl (by decide) _ _ _ rfl (hrow.alloc _) ⟨W.heap.size, 0, none⟩ 1 1 [.int .i64 y] rfl rfl (cell_one_new _ _ _) (by simp [Value.oneCell']) (by omega) (by omega) (by have := hB.size; simp; omega) ?_; intro v' w1 hown' hgrow _; obtain ⟨g', cap', rfl⟩ := ownsRow_succ hown'; obtain ⟨hv1, hv2, hr2, hk2, hb2⟩ := hv.appended (by decide) hrow hB.size (Nat.le_refl _) hown' hgrow; have hc1 := hv1.cell; have hf1 := hv1.frozen)
    exact ⟨hk2.from _, hb2, ⟨_, hv2, by simpa using hr2, trivial⟩, hB.trans hb2⟩
  case done =>
    rintro D ys W hD rfl ⟨⟨v, hv, hrow, _⟩, hB⟩ hK
    have hc := hv.cell
    gi_wp2
    refine ⟨by simp, .inl ⟨_, _, rfl, run_takeDeferred hK, ?_⟩⟩
    exact ⟨_, results_tmp rfl _ _ _, v, rfl, ownsRow_putObj hrow _ hK rfl, hB.trans (belowK_b (w := w) (Nat.le_refl _) W D _ _ (by simp at hD; omega) hK rfl rfl)⟩
  case stop =>
    rintro D c pre W _ _ h _
    exact h.elim

theorem collect_any (x : BitVec 32) (Bn : Nat) (w : World) (hBn : Bn < w.heap.size) (hc : w.cell? ⟨Bn, 0, none⟩ = some (.int .u32 (x.toNat : Int))) :
    Calls Try.prog 118 #[.func (.func 122) #[] #[.pointer (some ⟨Bn, 0, none⟩)]] w fun e W' =>
      ∃ v, e = .returned v ∧ W'.ownsRow w.heap.size 3 1 v (lst x 32).length ((lst x 32).map (Value.int .i64)) ∧ Below w.heap.size w W' := by
  have H := Lib.hid (append_seq x Bn w hBn hc)
  clear hc hBn
  go_enter Try.func118, Try.ntmps118
  go_wp2_with fail
  refine H.out.mono ?_
  rintro e w1 ⟨v, rfl, ho, hb⟩
  have HO := Lib.hid ho
  clear ho
  go_wp2_with fail
  go_ret
  exact ⟨v, rfl, HO.out, hb⟩

/-- The fields of a mask. -/
def flds (x : BitVec 32) : List Int := lst (x &&& 255#32) 32
theorem flds_len (x : BitVec 32) : (flds x).length ≤ 32 := lst_len _ _
theorem fields_any (x : BitVec 32) (w : World) : Calls Try.prog 111 #[.int .u32 (x.toNat : Int)] w fun e w' =>
    ∃ A c, e = .returned (.slice A (flds x).length c) ∧ Own w' w.heap.size 3 (.slice A (flds x).length c) (ivs (flds x)) ∧ Below w.heap.size w w' := by
  have h1 := BitM.u32_and x 255#32
  have h2 : (255 : Int) = ((255#32 : BitVec 32).toNat : Int) := rfl
  rw [← h2] at h1
  unfold flds
  generalize x &&& 255#32 = r at h1 ⊢
  clear h2
  go_enter Try.func111, Try.ntmps111
  go_wp2_with fail
  refine (each_any r w).mono ?_
  rintro e w1 ⟨rfl, rfl⟩
  have H := Lib.hid (collect_any r w.heap.size (w.alloc (.cells #[.int .u32 (r.toNat : Int)] 58)) (by simp) (Boxed.new w 58 (.int .u32 (r.toNat : Int))).cell)
  go_wp2_with fail
  refine H.out.mono ?_
  rintro e w2 ⟨v, rfl, ho, hb⟩
  have ho2 : Own w2 w.heap.size 3 v (ivs (lst r 32)) := Own.lower (base := (w.alloc (.cells #[.int .u32 (r.toNat : Int)] 58)).heap.size) (by unfold Own; rw [ivs_length]; exact ho) (by simp)
  obtain ⟨A, c, hv⟩ := ho2.form
  rw [ivs_length] at hv
  subst hv
  have HO := Lib.hid ho2
  have hb2 : Below w.heap.size w w2 := ((Below.refl _ w).alloc (Nat.le_refl _) _).trans (hb.mono (by simp))
  clear ho ho2 hb
  go_wp2_with fail
  go_ret
  exact ⟨A, c, rfl, HO.out, hb2⟩
end Go.Proofs.Ytgpbglmlakildaa

/- More of sets: masks, their fields, labels; both masks; what is in all of a list. -/
namespace Go.Proofs.Ytgpbglmlakildaa
set_option linter.unusedVariables false
open Go Go.RowKit BitM

theorem low_bit (n i : Nat) : (2 ^ n - 1 : Nat).testBit i = decide (i < n) := Nat.testBit_two_pow_sub_one n i
theorem bit_255 (i : Nat) : (255#32 : BitVec 32).getLsbD i = decide (i < 8) := low_bit 8 i
theorem bit_511 (i : Nat) : (511#32 : BitVec 32).getLsbD i = decide (i < 9) := low_bit 9 i
theorem le_511 (x : BitVec 32) : decide (x.toNat ≤ 511) = true ↔ ∀ i, 9 ≤ i → i < 32 → x.getLsbD i = false := by
  rw [decide_eq_true_iff]
  constructor
  · intro h i h9 _
    have : x.toNat < 2 ^ i := Nat.lt_of_lt_of_le (by omega : x.toNat < 2 ^ 9) (Nat.pow_le_pow_right (by omega) h9)
    exact Nat.testBit_lt_two_pow this
  · intro h
    have : x.toNat < 2 ^ 9 := by
      apply Nat.lt_pow_two_of_testBit
      intro i hi
      by_cases h32 : i < 32
      · exact h i hi h32
      · exact BitVec.getLsbD_of_ge x i (by omega)
    omega
theorem check_eq (x : BitVec 32) : (x &&& ~~~511#32 == 0#32) = decide (x.toNat ≤ 511) := by
  rw [Bool.eq_iff_iff, le_511, beq_iff_eq]
  constructor
  · intro h i h9 h32
    have := congrArg (fun v : BitVec 32 => v.getLsbD i) h
    simp only [BitVec.getLsbD_and, BitVec.getLsbD_not, bit_511, BitVec.getLsbD_zero] at this
    simpa [h32, show ¬ i < 9 by omega] using this
  · intro h
    apply BitVec.eq_of_getLsbD_eq
    intro i hi
    simp only [BitVec.getLsbD_and, BitVec.getLsbD_not, bit_511, BitVec.getLsbD_zero]
    by_cases h9 : i < 9
    · simp [h9]
    · simp [h i (by omega) hi]
theorem has_and_255 (x : BitVec 32) (n : Int) : has (x &&& 255#32) n = (has x n && decide (n < 8)) := by
  by_cases h : 0 ≤ n ∧ n < 32
  · obtain ⟨k, rfl⟩ := Int.eq_ofNat_of_zero_le h.1
    have hk : k < 32 := by omega
    rw [has_in _ hk, has_in _ hk, BitVec.getLsbD_and, bit_255]
    congr 1
    rw [Bool.eq_iff_iff]; simp; omega
  · rw [has_out _ h, has_out _ h]; rfl
theorem mem_lst (x : BitVec 32) (k : Nat) (n : Int) : n ∈ lst x k ↔ (0 ≤ n ∧ n < k ∧ has x n = true) := by
  unfold lst
  rw [List.mem_map]
  constructor
  · rintro ⟨i, hi, rfl⟩
    rw [List.mem_filter, List.mem_range] at hi
    exact ⟨by omega, by omega, hi.2⟩
  · rintro ⟨h0, h1, h2⟩
    obtain ⟨i, rfl⟩ := Int.eq_ofNat_of_zero_le h0
    exact ⟨i, List.mem_filter.2 ⟨List.mem_range.2 (by omega), h2⟩, rfl⟩
theorem mem_flds (x : BitVec 32) (n : Int) : n ∈ flds x ↔ (0 ≤ n ∧ n < 8 ∧ has x n = true) := by
  unfold flds
  rw [mem_lst, has_and_255]
  simp only [Bool.and_eq_true, decide_eq_true_eq]
  constructor
  · rintro ⟨a, b, c, d⟩; exact ⟨a, d, c⟩
  · rintro ⟨a, b, c⟩; exact ⟨a, by omega, c, b⟩
theorem flds_in (x : BitVec 32) (j : Nat) (h : j < (flds x).length) : ∃ i : Nat, i < 8 ∧ (flds x)[j] = (i : Int) := by
  have := (mem_flds x (flds x)[j]).1 (List.getElem_mem h)
  obtain ⟨i, hi⟩ := Int.eq_ofNat_of_zero_le this.1
  exact ⟨i, by omega, hi⟩

theorem labels_any (x : BitVec 32) (w : World) : Calls Try.prog 107 #[.int .u32 (x.toNat : Int)] w fun e w' => e = .returned (.bool (has x 8)) ∧ w = w' := by
  have h1 := BitM.u32_and x (one 8)
  have h3 : ((one 8).toNat : Int) = 256 := rfl
  rw [h3] at h1
  have h2 := (nat_ne0 (x &&& one 8)).trans (and_one x 8)
  generalize x &&& one 8 = r at h1 h2
  clear h3
  go_enter Try.func107, Try.ntmps107
  go_wp2_with fail
  go_ret
  exact ⟨rfl, rfl⟩
theorem rlabels_any (x : BitVec 32) (w : World) : Calls Try.prog 105 #[.int .u32 (x.toNat : Int)] w fun e w' => e = .returned (.bool (has x 8)) ∧ w = w' := by
  go_enter Try.func105, Try.ntmps105
  go_wp2_with fail
  refine (rhas_any x 8 w).mono ?_
  rintro e w' ⟨rfl, rfl⟩
  go_wp2_with fail
  go_ret
  exact ⟨rfl, rfl⟩
theorem mcheck_any (x : BitVec 32) (w : World) : Calls Try.prog 101 #[.int .u32 (x.toNat : Int)] w fun e w' => e = .returned (.bool (decide (x.toNat ≤ 511))) ∧ w = w' := by
  have H := Lib.hid (within_any x 511#32 w)
  rw [check_eq] at H
  go_enter Try.func101, Try.ntmps101
  go_wp2_with fail
  refine H.out.mono ?_
  rintro e w' ⟨rfl, rfl⟩
  go_wp2_with fail
  go_ret
  exact ⟨rfl, rfl⟩
theorem rmcheck_any (x : BitVec 32) (w : World) : Calls Try.prog 104 #[.int .u32 (x.toNat : Int)] w fun e w' => e = .returned (.bool (decide (x.toNat ≤ 511))) ∧ w = w' := by
  have h1 : decide ((x.toNat : Int) ≤ 511) = decide (x.toNat ≤ 511) := by rw [decide_eq_decide]; omega
  by_cases h : x.toNat ≤ 511
  · rw [decide_eq_true h] at h1 ⊢
    go_enter Try.func104, Try.ntmps104
    go_wp2_with fail
    go_ret
    exact ⟨rfl, rfl⟩
  · rw [decide_eq_false h] at h1 ⊢
    go_enter Try.func104, Try.ntmps104
    go_wp2_with fail
    go_ret
    exact ⟨rfl, rfl⟩

/-- The numbers of a list as a set. -/
def ofl (l : List Int) : BitVec 32 := l.foldl put 0#32
theorem ofl_snoc (l : List Int) (n : Int) : ofl (l ++ [n]) = put (ofl l) n := by unfold ofl; rw [List.foldl_append]; rfl
theorem has_ofl (l : List Int) (n : Int) : has (ofl l) n = (decide (0 ≤ n ∧ n < 32) && decide (n ∈ l)) := by
  have key : ∀ (l : List Int) (x : BitVec 32), has (l.foldl put x) n = (has x n || (decide (0 ≤ n ∧ n < 32) && decide (n ∈ l))) := by
    intro l
    induction l with
    | nil => intro x; simp
    | cons m l ih =>
      intro x
      rw [List.foldl_cons, ih, has_put]
      by_cases hn : 0 ≤ n ∧ n < 32
      · by_cases e : m = n
        · subst e; simp [hn]
        · have : ¬ n = m := fun h => e h.symm
          simp [hn, e, this]
      · by_cases e : m = n
        · subst e; simp [hn]
        · simp [hn, e]
  rw [ofl, key, has_zero, Bool.false_or]

/-- The mask of fields and labels. -/
def mkm (b : Bool) (l : List Int) : BitVec 32 := (ofl l &&& 255#32) ||| (if b then 256#32 else 0#32)
end Go.Proofs.Ytgpbglmlakildaa

/- What a mask shows of labels and fields: what each returns. -/
namespace Go.Proofs.Ytgpbglmlakildaa
set_option linter.unusedVariables false
open Go Go.RowKit BitM

theorem grown_setCell (w : World) (b j : Nat) (v : Value) : w.grownBy (w.setCell ⟨b, j, none⟩ v) (some b) :=
  ⟨rfl, rfl, rfl, by simp [World.setCell], fun k _ hk => Below.heap_setCell _ _ _ k (fun e => hk (by rw [e]))⟩
theorem grown_sets (b : Nat) : ∀ (vs : List Value) (o : Nat) (w : World), w.grownBy (w.setCells b o vs) (some b)
  | [], _, w => World.grownBy.refl w _
  | v :: vs, o, w => (grown_setCell w b o v).trans (grown_sets b vs (o + 1) _)
theorem Own.setsOther {w : World} {base : Nat} {e : TypeId} {v : Value} {xs : List Value} (h : Own w base e v xs) {b : Nat} (hb : b < base) (vs : List Value) (o : Nat) : Own (w.setCells b o vs) base e v xs := by
  refine h.kept (grown_sets b vs o w) ?_
  have hl := h.lt
  rcases hv : v.ownBlock with _ | g
  · exact .inl rfl
  · refine .inr fun e' => ?_
    have := hl g hv
    cases e'
    omega

section
variable {P : Program} {ops : List Oper} {Q : Exit → Act → World → Prop}
/-- In a drawn region: number i is taken first, for it yields v in whatever world. -/
theorem wpAny_yield (i : Nat) {oi : Oper} (v : Value) {fuel : Nat} {listed : Array Bool} {a : Act} {w : World} (hi : ops[i]? = some oi)
    (hs : Region.noSelect ops.toArray = true) (hf : Region.free .any ops.toArray listed i = true) (hr : (Region.ready .any ops.toArray listed).contains i = true)
    (hQ : ∀ c a w, Q (.panic c) (a.put oi.dst v) w → Q (.panic c) a w) (hw : Region.wanted oi (yielded ops.toArray a.tmps) = true) (hy : ∀ w, (execOp a.eval oi).run P w = .ok (.value v) w)
    (h : wpAny P .any ops.toArray Q fuel (listed.setIfInBounds i true) (a.put oi.dst v) w) : wpAny P .any ops.toArray Q (fuel + 1) listed a w :=
  wpAny_take (by rw [List.getElem?_toArray]; exact hi) hs hf hr hQ (.inl ⟨hw, hy⟩) h
/-- In a drawn region: number i alone may come up. -/
theorem wpAny_one (i : Nat) {oi : Oper} {fuel : Nat} {listed : Array Bool} {a : Act} {w : World} (hi : ops[i]? = some oi) (hr : Region.ready .any ops.toArray listed = [i]) (hw : Region.wanted oi (yielded ops.toArray a.tmps) = true)
    (h : oi.wp P a w (wpAny P .any ops.toArray Q fuel (listed.setIfInBounds i true)) Q) : wpAny P .any ops.toArray Q (fuel + 1) listed a w :=
  wpAny_all hr (by simp) (fun j hj => by
    obtain rfl : j = i := by simpa using hj
    unfold wpOp
    simp only [List.getElem?_toArray, hi, hw, if_true]
    exact .inl h)
end

/-- A result that lies in a block; a result beside it. -/
theorem results_blk {P : Program} {fn : Func} {q : Tmp} {ty : TypeId} (h : fn.results = #[.cell q ty]) (tmps : Array Value) (w : World) (g : Nat) (cs : List Value) (d : TypeDesc)
    (hq : tmps.getD q undef = .pointer (some ⟨g, 0, none⟩)) (hB : Blk w g cs)
    (hu : P.underlying ty = some d) (hd : (match d with | .struct _ | .array _ _ => true | _ => false) = true) (hi : (P.info? ty).map (·.size) = some cs.length) :
    (results fn tmps).run P w = .ok (.agg cs.toArray) w := by
  obtain ⟨t, hB⟩ := hB
  exact results_cell_row h tmps w g t cs.toArray (0, 0) d hq hB hu hd (by simpa using hi)
theorem results_tmp_blk {P : Program} {fn : Func} {p q : Tmp} {ty : TypeId} (h : fn.results = #[.tmp p, .cell q ty]) (tmps : Array Value) (w : World) (g : Nat) (cs : List Value) (d : TypeDesc) (v : Value) (hp : tmps.getD p undef = v)
    (hq : tmps.getD q undef = .pointer (some ⟨g, 0, none⟩)) (hB : Blk w g cs)
    (hu : P.underlying ty = some d) (hd : (match d with | .struct _ | .array _ _ => true | _ => false) = true) (hi : (P.info? ty).map (·.size) = some cs.length) :
    (results fn tmps).run P w = .ok (.tuple #[v, .agg cs.toArray]) w := by
  obtain ⟨t, hB⟩ := hB
  subst hp
  have hq' : tmps[q]?.getD undef = .pointer (some ⟨g, 0, none⟩) := by simpa using hq
  simp [results, h, hq', asAddr, run_loadVar_row w g t ty cs.toArray (0, 0) d hB hu hd (by simpa using hi)]

def zeros : List V3 := List.replicate 8 zv
theorem zeros_len : zeros.length = 8 := rfl
/-- Which fields the first k numbers of a list name. -/
def inl (l : List Int) (k : Nat) : Nat → Bool := fun i => decide ((i : Int) ∈ l.take k)
theorem inl_zero (l : List Int) : inl l 0 = fun _ => false := by
  funext i; simp [inl]
theorem inl_succ (l : List Int) (k i : Nat) (h : k < l.length) (hi : l[k] = (i : Int)) : inl l (k + 1) = fun j => inl l k j || j == i := by
  funext j
  unfold inl
  rw [List.take_succ_eq_append_getElem h, hi]
  rw [Bool.eq_iff_iff]
  simp only [List.mem_append, List.mem_singleton, Bool.or_eq_true, decide_eq_true_eq, beq_iff_eq]
  rw [show ((j : Int) = (i : Int)) ↔ j = i from by omega]
theorem inl_flds (x : BitVec 32) (a c : List V3) : mix (inl (flds x) (flds x).length) a c = mix (fun i => has x (i : Int)) a c := by
  apply mix_congr
  intro i hi
  unfold inl
  rw [List.take_length, Bool.eq_iff_iff, decide_eq_true_iff, mem_flds]
  constructor
  · rintro ⟨_, _, h⟩; exact h
  · intro h; exact ⟨by omega, by omega, h⟩

/-- A step of the loop: a field is laid into another row of fields. -/
theorem blk_field {w : World} {g : Nat} (p : Nat → Bool) (f c : List V3) (pre : List Value) (i : Nat) (hi : i < 8) (hf : i < f.length) (h : Blk w g (pre ++ fcells (mix p f c))) :
    Blk (w.setCells g (pre.length + i * 3) (vcells f[i])) g (pre ++ fcells (mix (fun j => p j || j == i) f c)) := by
  have hl : (fcells (mix p f c)).length = 24 := by rw [fcells_len, mix_len]
  have h2 := h.sets (vcells f[i]) (pre.length + i * 3) (by rw [List.length_append, hl]; show _ + 3 ≤ _; omega)
  have e : (pre ++ fcells (mix p f c)).take (pre.length + i * 3) ++ vcells f[i] ++ (pre ++ fcells (mix p f c)).drop (pre.length + i * 3 + (vcells f[i]).length) = pre ++ fcells (mix (fun j => p j || j == i) f c) := by
    rw [show (vcells f[i]).length = 3 from rfl, List.take_append, List.drop_append, Nat.add_sub_cancel_left]
    rw [List.take_of_length_le (by omega), List.drop_eq_nil_of_le (by omega), List.nil_append, show pre.length + i * 3 + 3 - pre.length = 3 * i + 3 by omega, Nat.mul_comm i 3]
    rw [List.append_assoc, List.append_assoc, ← List.append_assoc ((fcells (mix p f c)).take _), fcells_set _ _ _ (by rw [mix_len]; exact hi), mix_set p f c i hi hf]
  rw [e] at h2
  exact h2
theorem Blk.field {w : World} {g : Nat} {pre : List Value} {f : List V3} (h : Blk w g (pre ++ fcells f)) (o i : Nat) (ho : pre.length = o) (hi : i < f.length) :
    w.cell? ⟨g, o + i * 3, none⟩ = some (.int .i64 f[i].1) ∧ w.cell? ⟨g, o + i * 3 + 1, none⟩ = some (.int .i64 f[i].2.1) ∧ w.cell? ⟨g, o + i * 3 + 2, none⟩ = some (.string f[i].2.2) := by
  subst ho
  have h2 := fcells_get f i hi
  rw [Nat.mul_comm i 3]
  refine ⟨h.cell ?_, h.cell ?_, h.cell ?_⟩
  · rw [List.getElem?_append_right (by omega), Nat.add_sub_cancel_left]; exact h2.1
  · rw [List.getElem?_append_right (by omega), show pre.length + 3 * i + 1 - pre.length = 3 * i + 1 by omega]; exact h2.2.1
  · rw [List.getElem?_append_right (by omega), show pre.length + 3 * i + 2 - pre.length = 3 * i + 2 by omega]; exact h2.2.2
theorem Blk.field0 {w : World} {g : Nat} {f : List V3} (h : Blk w g (fcells f)) (i : Nat) (hi : i < f.length) :
    w.cell? ⟨g, i * 3, none⟩ = some (.int .i64 f[i].1) ∧ w.cell? ⟨g, i * 3 + 1, none⟩ = some (.int .i64 f[i].2.1) ∧ w.cell? ⟨g, i * 3 + 2, none⟩ = some (.string f[i].2.2) := by
  have := Blk.field (pre := []) (o := 0) h i rfl hi
  simpa using this

set_option maxRecDepth 100000 in
set_option maxHeartbeats 3200000 in
theorem shown_any (lb : Int) (x : BitVec 32) (f : List V3) (w : World) (hf : f.length = 8) :
    Calls Try.prog 102 #[.int .u32 lb, .agg (fcells f).toArray, .int .u32 (x.toNat : Int)] w fun e w' =>
      e = .returned (.tuple #[.int .u32 (if has x 8 then lb else 0), .agg (fcells (mix (fun i => has x (i : Int)) f zeros)).toArray]) ∧ Below w.heap.size w w' := by
  obtain ⟨rl, hrl⟩ : ∃ r : Int, r = (if has x 8 then lb else 0) := ⟨_, rfl⟩
  rw [← hrl]
  have HRL := Lib.hid hrl
  clear hrl
  have B0 := Blk.new w (fcells f) 59
  obtain ⟨arr, harr⟩ : ∃ arr, arr = (fcells f).toArray := ⟨_, rfl⟩
  rw [← harr] at B0 ⊢
  have B1 := Blk.new (w.alloc (.cells arr 59)) (fcells zeros) 59
  have B2 := Blk.new ((w.alloc (.cells arr 59)).alloc (.cells (fcells zeros).toArray 59)) (fcells zeros) 59
  have hw0 := (((Below.refl w.heap.size w).alloc (Nat.le_refl _) (.cells arr 59)).alloc (by simp) (.cells (fcells zeros).toArray 59)).alloc (by simp; omega) (.cells (fcells zeros).toArray 59)
  replace B1 := B1.alloc (.cells (fcells zeros).toArray 59)
  replace B0 := (B0.alloc (.cells (fcells zeros).toArray 59)).alloc (.cells (fcells zeros).toArray 59)
  have HF := Lib.hid hf
  have HFL := Lib.hid (fields_any x (((w.alloc (.cells arr 59)).alloc (.cells (fcells zeros).toArray 59)).alloc (.cells (fcells zeros).toArray 59)))
  have hsz : (((w.alloc (.cells arr 59)).alloc (.cells (fcells zeros).toArray 59)).alloc (.cells (fcells zeros).toArray 59)).heap.size = w.heap.size + 3 := by simp
  have hs2 : ((w.alloc (.cells arr 59)).alloc (.cells (fcells zeros).toArray 59)).heap.size = w.heap.size + 2 := by simp
  have hs1 : (w.alloc (.cells arr 59)).heap.size = w.heap.size + 1 := by simp
  rw [hs1] at B1
  rw [hs2] at B2
  generalize hW : ((w.alloc (.cells arr 59)).alloc (.cells (fcells zeros).toArray 59)).alloc (.cells (fcells zeros).toArray 59) = W at *
  have HW := Lib.hid hW
  have HB := Lib.hid hw0
  have HSZ := Lib.hid hsz
  clear hf harr hsz hs1 hs2 hW hw0
  go_enter Try.func102, Try.ntmps102
  go_wp2_with fail
  have hzc : (fcells zeros).toArray = #[Value.int .i64 0, .int .i64 0, .string { data := #[] }, .int .i64 0, .int .i64 0, .string { data := #[] }, .int .i64 0, .int .i64 0, .string { data := #[] }, .int .i64 0, .int .i64 0, .string { data := #[] }, .int .i64 0, .int .i64 0, .string { data := #[] }, .int .i64 0, .int .i64 0, .string { data := #[] }, .int .i64 0, .int .i64 0, .string { data := #[] }, .int .i64 0, .int .i64 0, .string { data := #[] }] := rfl
  rw [← hzc, HW.out]
  clear hzc
  refine HFL.out.mono ?_
  rintro e w1 ⟨A, c, rfl, ho, hb⟩
  have C0 := B0.later hb
  have C1 := B1.later hb
  have C2 := B2.later hb
  have hbw : Below w.heap.size w w1 := HB.out.trans (hb.mono (by rw [HSZ.out]; omega))
  replace ho : Own w1 (w.heap.size + 3) 3 (.slice A (flds x).length c) (ivs (flds x)) := by rw [HSZ.out] at ho; exact ho
  have hfl := flds_len x
  clear B0 B1 B2 HFL HB HSZ hb
  go_wp2_with fail
  obtain ⟨n, hn⟩ : ∃ n, n = (flds x).length := ⟨_, rfl⟩
  rw [← hn] at ho hfl ⊢
  have HN := Lib.hid hn
  clear hn
  go_loopw [14] (fun i wr => ∃ k : Nat, k ≤ n ∧ i = .int .i64 k ∧ Blk wr w.heap.size (fcells f) ∧ Blk wr (w.heap.size + 1) (fcells zeros) ∧ Blk wr (w.heap.size + 2) (fcells (mix (inl (flds x) k) f zeros)) ∧ Own wr (w.heap.size + 3) 3 (.slice A n c) (ivs (flds x)) ∧ Below w.heap.size w wr)
    (fun i _ => n - (intOf i).toNat)
  case atStart => exact ⟨0, Nat.zero_le _, rfl, C0, C1, by rw [inl_zero, mix_none _ _ zeros_len]; exact C2, ho, hbw⟩
  case round =>
    obtain ⟨k, hk, rfl, D0, D1, D2, hown, hbr⟩ := hrel
    clear C0 C1 C2 ho hbw
    by_cases hlt : k < n
    · have hkl : k < (flds x).length := by rw [← HN.out]; exact hlt
      obtain ⟨i, hi8, hik⟩ := flds_in x k hkl
      obtain ⟨b, o, rfl, hb, hc⟩ := hown.sees.int k hkl
      rw [hik] at hc
      have hif : i < f.length := by rw [HF.out]; exact hi8
      obtain ⟨l0, l1, l2⟩ := D0.field0 i hif
      obtain ⟨s0, s1, s2⟩ := D2.field0 i (by rw [mix_len]; exact hi8)
      have f0 := D2.frozen (i * 3)
      have f1 := D2.frozen (i * 3 + 1)
      have f2 := D2.frozen (i * 3 + 2)
      have d8 : (i : Int) < 8 := by omega
      have E2 := blk_field (w := wr) (g := w.heap.size + 2) (inl (flds x) k) f zeros [] i hi8 hif D2
      rw [← inl_succ (flds x) k i hkl hik] at E2
      have E0 := Blk.setsOther (b := w.heap.size + 2) (g := w.heap.size) (by omega) (vcells f[i]) (0 + i * 3) D0
      have E1 := Blk.setsOther (b := w.heap.size + 2) (g := w.heap.size + 1) (by omega) (vcells f[i]) (0 + i * 3) D1
      have EO := hown.setsOther (b := w.heap.size + 2) (by omega) (vcells f[i]) (0 + i * 3)
      have EB := below_sets (B := w.heap.size) (b := w.heap.size + 2) (by omega) (vcells f[i]) (0 + i * 3) hbr
      obtain ⟨v, hv⟩ : ∃ v, v = f[i] := ⟨_, rfl⟩
      rw [← hv] at l0 l1 l2 E0 E1 E2 EO EB
      obtain ⟨v0, v1, v2⟩ := v
      simp only at l0 l1 l2
      have R : Hid (Blk (wr.setCells (w.heap.size + 2) (0 + i * 3) (vcells (v0, v1, v2))) w.heap.size (fcells f) ∧ Blk (wr.setCells (w.heap.size + 2) (0 + i * 3) (vcells (v0, v1, v2))) (w.heap.size + 1) (fcells zeros) ∧ Blk (wr.setCells (w.heap.size + 2) (0 + i * 3) (vcells (v0, v1, v2))) (w.heap.size + 2) (fcells (mix (inl (flds x) (k + 1)) f zeros)) ∧ Own (wr.setCells (w.heap.size + 2) (0 + i * 3) (vcells (v0, v1, v2))) (w.heap.size + 3) 3 (.slice (some ⟨b, o, none⟩) n c) (ivs (flds x)) ∧ Below w.heap.size w (wr.setCells (w.heap.size + 2) (0 + i * 3) (vcells (v0, v1, v2)))) := ⟨E0, E1, E2, EO, EB⟩
      clear hv E0 E1 E2 EO EB hik D0 D1 D2
      rw [Nat.zero_add] at R
      go_wp2_with fail
      go_roundw
      case rel => exact ⟨k + 1, by omega, by go_num, R.out⟩
      case measure => simp [intOf]; omega
    · obtain rfl : k = n := by omega
      have hz : mix (inl (flds x) k) f zeros = mix (fun i => has x (i : Int)) f zeros := by rw [HN.out]; exact inl_flds x f zeros
      rw [hz] at D2
      clear hz hown
      have HL := Lib.hid (labels_any x wr)
      have R2 := D2.range 0 (fcells (mix (fun i => has x (i : Int)) f zeros)) (by rw [List.drop_zero, List.take_length])
      have T1 := D1.there 0 24 (by rw [fcells_len, zeros_len]; omega)
      have hu := Try.underlying59
      obtain ⟨cs, hcs⟩ : ∃ cs, cs = fcells (mix (fun i => has x (i : Int)) f zeros) := ⟨_, rfl⟩
      have hlen : cs.length = 24 := by rw [hcs, fcells_len, mix_len]
      have hi : (Try.prog.info? 59).map (·.size) = some cs.length := by rw [hlen]; kernel_rfl
      have hone : ∀ v ∈ cs, v.oneCell' = true := by rw [hcs]; exact fcells_one _
      rw [← hcs] at R2
      have HI := Lib.hid hi
      have HCS := Lib.hid hcs
      have FIN : Blk (wr.drew.setCells (w.heap.size + 1) 0 cs) (w.heap.size + 1) cs := by
        have h := D1.drew.sets cs 0 (by rw [hlen, fcells_len, zeros_len]; omega)
        rw [List.take_zero, List.nil_append, List.drop_eq_nil_of_le (by rw [hlen, fcells_len, zeros_len]; omega), List.append_nil] at h
        exact h
      have FB : Below w.heap.size w (wr.drew.setCells (w.heap.size + 1) 0 cs) := below_sets (by omega) cs 0 hbr.drew
      clear hcs
      cases hb : has x 8 with
      | true =>
        rw [hb] at HL
        have HBB := Lib.hid hb
        clear hb
        go_wp2_with fail
        refine HL.out.mono ?_
        rintro e w' ⟨rfl, rfl⟩
        go_wp2_with fail
        refine wp_region_any (by kernel_rfl) ?_
        refine wpAny_yield 0 (.int .u32 lb) rfl (by kernel_rfl) (by kernel_rfl) (by kernel_rfl) (fun _ _ _ h => h) (by rfl) (by intro _; simp [go_sem]) ?_
        simp only [Act.put, List.setIfInBounds_toArray, List.set_cons_zero, List.set_cons_succ]
        refine wpAny_yield 2 (.int .u32 lb) rfl (by kernel_rfl) (by kernel_rfl) (by kernel_rfl) (fun _ _ _ h => h) (by rfl) (by intro _; simp [go_sem]) ?_
        simp only [Act.put, List.setIfInBounds_toArray, List.set_cons_zero, List.set_cons_succ]
        refine wpAny_one 1 rfl (by kernel_rfl) (by rfl) ?_
        refine wp_load_mid 59 _ rfl (w.heap.size + 1 + 1) 0 rfl cs _ R2 hu rfl hi ?_
        simp only [Act.put, List.setIfInBounds_toArray, List.set_cons_zero, List.set_cons_succ]
        refine wpAny_one 3 rfl (by kernel_rfl) (by rfl) ?_
        refine wp_store_mid 59 _ _ rfl (w.heap.size + 1) 0 cs.toArray rfl rfl (by simpa [hlen] using T1) (by simpa using hi) (all_oneCell_toArray hone) ?_
        refine wpAny_done (by kernel_rfl) ?_ _
        clear hi hone hlen R2 T1
        go_wp2
        exact bodyPost_ret (v := .tuple #[.int .u32 lb, .agg cs.toArray]) (results_tmp_blk (p := 6) (q := 7) rfl _ _ (w.heap.size + 1) cs _ _ rfl rfl FIN hu rfl HI.out) rfl ⟨by rw [HCS.out, HRL.out, HBB.out]; rfl, FB⟩
      | false =>
        rw [hb] at HL
        have HBB := Lib.hid hb
        clear hb
        go_wp2_with fail
        refine HL.out.mono ?_
        rintro e w' ⟨rfl, rfl⟩
        go_wp2_with fail
        refine wp_region_any (by kernel_rfl) ?_
        refine wpAny_yield 0 (.int .u32 0) rfl (by kernel_rfl) (by kernel_rfl) (by kernel_rfl) (fun _ _ _ h => h) (by rfl) (by intro _; simp [go_sem]) ?_
        simp only [Act.put, List.setIfInBounds_toArray, List.set_cons_zero, List.set_cons_succ]
        refine wpAny_yield 2 (.int .u32 0) rfl (by kernel_rfl) (by kernel_rfl) (by kernel_rfl) (fun _ _ _ h => h) (by rfl) (by intro _; simp [go_sem]) ?_
        simp only [Act.put, List.setIfInBounds_toArray, List.set_cons_zero, List.set_cons_succ]
        refine wpAny_one 1 rfl (by kernel_rfl) (by rfl) ?_
        refine wp_load_mid 59 _ rfl (w.heap.size + 1 + 1) 0 rfl cs _ R2 hu rfl hi ?_
        simp only [Act.put, List.setIfInBounds_toArray, List.set_cons_zero, List.set_cons_succ]
        refine wpAny_one 3 rfl (by kernel_rfl) (by rfl) ?_
        refine wp_store_mid 59 _ _ rfl (w.heap.size + 1) 0 cs.toArray rfl rfl (by simpa [hlen] using T1) (by simpa using hi) (all_oneCell_toArray hone) ?_
        refine wpAny_done (by kernel_rfl) ?_ _
        clear hi hone hlen R2 T1
        go_wp2
        exact bodyPost_ret (v := .tuple #[.int .u32 0, .agg cs.toArray]) (results_tmp_blk (p := 6) (q := 7) rfl _ _ (w.heap.size + 1) cs _ _ rfl rfl FIN hu rfl HI.out) rfl ⟨by rw [HCS.out, HRL.out, HBB.out]; rfl, FB⟩
end Go.Proofs.Ytgpbglmlakildaa

/- Filters as lists of nodes: which nodes may be, where trees end, how deep they are: mathematics. -/
namespace Go.Proofs.Ytgpbglmlakildaa
set_option linter.unusedVariables false
set_option linter.unusedSimpArgs false
open Go Go.RowKit

/-- A node: its kind, its number, its value. -/
abbrev Nd := Int × Int × V3
def ncells (n : Nd) : List Value := [.int .i64 n.1, .int .i64 n.2.1, .int .i64 n.2.2.1, .int .i64 n.2.2.2.1, .string n.2.2.2.2]
def ncs (l : List Nd) : List Value := l.flatMap ncells
theorem ncells_len (n : Nd) : (ncells n).length = 5 := rfl
theorem ncells_of (n : Nd) : ncells n = [.int .i64 n.1, .int .i64 n.2.1] ++ vcells n.2.2 := rfl
theorem ncs_cons (n : Nd) (l : List Nd) : ncs (n :: l) = ncells n ++ ncs l := rfl
theorem ncs_append (l m : List Nd) : ncs (l ++ m) = ncs l ++ ncs m := by simp [ncs]
theorem ncs_len (l : List Nd) : (ncs l).length = 5 * l.length := by
  induction l with
  | nil => rfl
  | cons n l ih => rw [ncs_cons, List.length_append, ih, ncells_len, List.length_cons]; omega
theorem ncs_one (l : List Nd) : ∀ u ∈ ncs l, u.oneCell' = true := by
  intro u hu
  simp only [ncs, List.mem_flatMap, ncells] at hu
  obtain ⟨v, _, hv⟩ := hu
  simp at hv
  rcases hv with rfl | rfl | rfl | rfl | rfl <;> rfl
theorem ncs_drop (l : List Nd) (k : Nat) : (ncs l).drop (5 * k) = ncs (l.drop k) := by
  induction l generalizing k with
  | nil => simp [ncs]
  | cons n l ih =>
    cases k with
    | zero => simp
    | succ k =>
      rw [ncs_cons, List.drop_succ_cons, show 5 * (k + 1) = 5 + 5 * k by omega, ← List.drop_drop]
      rw [show (ncells n ++ ncs l).drop 5 = ncs l from by rw [List.drop_append_of_le_length (by simp [ncells])]; simp [ncells]]
      exact ih k
theorem ncs_take (l : List Nd) (k : Nat) : (ncs l).take (5 * k) = ncs (l.take k) := by
  induction l generalizing k with
  | nil => simp [ncs]
  | cons n l ih =>
    cases k with
    | zero => simp [ncs]
    | succ k =>
      rw [ncs_cons, List.take_succ_cons, ncs_cons, show 5 * (k + 1) = (ncells n).length + 5 * k by rw [ncells_len]; omega, List.take_length_add_append, ih k]
theorem ncs_get (l : List Nd) (k : Nat) (h : k < l.length) : ((ncs l).drop (5 * k)).take 5 = ncells l[k] := by
  rw [ncs_drop, List.drop_eq_getElem_cons h, ncs_cons, List.take_append_of_le_length (by simp [ncells])]
  simp [ncells]

/-- How many parts a kind has. -/
def par (op : Int) : Nat := if op = 10 then 1 else if op = 11 ∨ op = 12 then 2 else 0
theorem par_le (op : Int) : par op ≤ 2 := by unfold par; split; · omega
                                             · split <;> omega
/-- May a node be? -/
def nok (n : Nd) : Bool :=
  if n.1 = 1 ∨ n.1 = 2 ∨ n.1 = 10 ∨ n.1 = 11 ∨ n.1 = 12 then decide (n.2.1 = 0 ∧ n.2.2 = zv)
  else if n.1 = 3 ∨ n.1 = 4 then decide (0 ≤ n.2.1 ∧ n.2.1 < 16 ∧ n.2.2 = zv)
  else if n.1 = 5 then decide (0 ≤ n.2.1 ∧ n.2.1 < 8 ∧ n.2.2 = zv)
  else if n.1 = 6 ∨ n.1 = 7 ∨ n.1 = 8 then decide (0 ≤ n.2.1 ∧ n.2.1 < 8 ∧ vchk n.2.2 = true ∧ n.2.2 ≠ zv)
  else if n.1 = 9 then decide (0 ≤ n.2.1 ∧ n.2.1 < 8 ∧ vchk n.2.2 = true ∧ n.2.2.1 = 2)
  else false
theorem vchk_zv : vchk zv = true := by unfold zv; rw [vchk_0]; simp [empty]
theorem vchk_isz {v : V3} (h : vchk v = true) : v.1 = 0 ↔ v = zv := by
  obtain ⟨k, n, s⟩ := v
  constructor
  · intro hk
    have hk : k = 0 := hk
    subst hk
    rw [vchk_0] at h
    simp only [decide_eq_true_eq, nil_str_iff] at h
    rw [h.1, h.2]
    rfl
  · intro e
    rw [e]
    rfl

/-- Of so many trees that stand one behind the other: how many nodes they take. -/
def endOf : List Nd → Nat → Option Nat
  | _, 0 => some 0
  | [], _ + 1 => none
  | x :: l, k + 1 => (endOf l (k + par x.1)).map (· + 1)
theorem endOf_zero (l : List Nd) : endOf l 0 = some 0 := by cases l <;> rfl
theorem endOf_cons (x : Nd) (l : List Nd) (k : Nat) : endOf (x :: l) (k + 1) = (endOf l (k + par x.1)).map (· + 1) := rfl
theorem endOf_le : ∀ {l : List Nd} {k m : Nat}, endOf l k = some m → m ≤ l.length
  | l, 0, m, h => by rw [endOf_zero] at h; cases h; omega
  | [], k + 1, m, h => by cases h
  | x :: l, k + 1, m, h => by
    rw [endOf_cons, Option.map_eq_some_iff] at h
    obtain ⟨m', h', rfl⟩ := h
    have := endOf_le h'
    simp; omega
/-- Where the tree at a place ends. -/
def endAt (l : List Nd) (at_ : Int) : Int := if at_ < 0 then -1 else match endOf (l.drop at_.toNat) 1 with
  | some m => at_ + m
  | none => -1
theorem endAt_nat (l : List Nd) (j : Nat) : endAt l (j : Int) = match endOf (l.drop j) 1 with
    | some m => (j : Int) + m
    | none => -1 := by
  unfold endAt
  rw [if_neg (by omega)]
  simp
theorem endAt_neg (l : List Nd) (j : Int) (h : j < 0) : endAt l j = -1 := by unfold endAt; rw [if_pos h]
theorem endAt_le (l : List Nd) (j : Int) (h : j ≤ l.length) : endAt l j ≤ l.length := by
  unfold endAt
  split
  · omega
  · cases he : endOf (l.drop j.toNat) 1 with
    | none => simp
    | some m =>
      have := endOf_le he
      rw [List.length_drop] at this
      simp only
      omega
theorem endAt_ge (l : List Nd) (j : Int) : -1 ≤ endAt l j := by
  unfold endAt
  split
  · omega
  · split <;> omega

/-- A list that is so many trees, one behind the other. -/
def Wood (l : List Nd) (k : Nat) : Prop := endOf l k = some l.length
instance (l : List Nd) (k : Nat) : Decidable (Wood l k) := inferInstanceAs (Decidable (_ = _))
theorem wood_nil : Wood [] 0 := rfl
theorem wood_cons {x : Nd} {l : List Nd} {k : Nat} (h : Wood (x :: l) k) : ∃ j, k = j + 1 ∧ Wood l (j + par x.1) := by
  cases k with
  | zero => unfold Wood at h; rw [endOf_zero] at h; simp at h
  | succ j =>
    refine ⟨j, rfl, ?_⟩
    unfold Wood at h ⊢
    rw [endOf_cons, Option.map_eq_some_iff] at h
    obtain ⟨m, h1, h2⟩ := h
    simp at h2
    rw [h1, h2]
theorem wood_mk {x : Nd} {l : List Nd} {k : Nat} (h : Wood l (k + par x.1)) : Wood (x :: l) (k + 1) := by
  unfold Wood at h ⊢
  rw [endOf_cons, h]
  rfl
theorem wood_drop {l : List Nd} {k : Nat} (h : Wood l k) (j : Nat) (hj : j ≤ l.length) : ∃ k', Wood (l.drop j) k' := by
  induction j generalizing l k with
  | zero => exact ⟨k, h⟩
  | succ j ih =>
    cases l with
    | nil => simp at hj
    | cons x l =>
      obtain ⟨i, _, h'⟩ := wood_cons h
      exact ih h' (by simpa using hj)
theorem wood_uniq {l : List Nd} {k k' : Nat} (h : Wood l k) (h' : Wood l k') : k = k' := by
  induction l generalizing k k' with
  | nil =>
    cases k with
    | zero => cases k' with
      | zero => rfl
      | succ _ => cases h'
    | succ _ => cases h
  | cons x l ih =>
    obtain ⟨j, rfl, h1⟩ := wood_cons h
    obtain ⟨j', rfl, h1'⟩ := wood_cons h'
    have := ih h1 h1'
    omega
theorem wood_app {a b : List Nd} {j k : Nat} (ha : Wood a j) (hb : Wood b k) : Wood (a ++ b) (j + k) := by
  induction a generalizing j with
  | nil =>
    have : j = 0 := wood_uniq ha wood_nil
    subst this
    simpa using hb
  | cons x a ih =>
    obtain ⟨i, rfl, h1⟩ := wood_cons ha
    have := ih h1
    rw [List.cons_append, show i + 1 + k = (i + k) + 1 by omega]
    refine wood_mk ?_
    rw [show i + k + par x.1 = i + par x.1 + k by omega]
    exact this
/-- Of trees the first ones end somewhere, and are trees; the others too. -/
theorem endOf_split {l : List Nd} : ∀ (j k m : Nat), endOf l (j + k) = some m → ∃ m1, endOf l j = some m1 ∧ Wood (l.take m1) j ∧ m1 ≤ m ∧ endOf (l.drop m1) k = some (m - m1) := by
  induction l with
  | nil =>
    intro j k m h
    cases j with
    | zero => exact ⟨0, rfl, rfl, by omega, by simpa using h⟩
    | succ j => rw [show j + 1 + k = (j + k) + 1 by omega] at h; cases h
  | cons x l ih =>
    intro j k m h
    cases j with
    | zero => exact ⟨0, rfl, by simpa using wood_nil, by omega, by simpa using h⟩
    | succ j =>
      rw [show j + 1 + k = (j + k) + 1 by omega, endOf_cons, Option.map_eq_some_iff] at h
      obtain ⟨m', h1, rfl⟩ := h
      rw [show j + k + par x.1 = (j + par x.1) + k by omega] at h1
      obtain ⟨m1, e1, e2, e3, e4⟩ := ih _ _ _ h1
      refine ⟨m1 + 1, by rw [endOf_cons, e1]; rfl, ?_, by omega, ?_⟩
      · rw [List.take_succ_cons]; exact wood_mk e2
      · rw [List.drop_succ_cons, e4]; congr 1; omega
theorem wood_split {l : List Nd} {j k : Nat} (h : Wood l (j + k)) : ∃ m1, endOf l j = some m1 ∧ m1 ≤ l.length ∧ Wood (l.take m1) j ∧ Wood (l.drop m1) k := by
  obtain ⟨m1, e1, e2, e3, e4⟩ := endOf_split j k _ h
  refine ⟨m1, e1, e3, e2, ?_⟩
  unfold Wood
  rw [e4, List.length_drop]
theorem endOf_app {a b : List Nd} {j : Nat} (h : Wood a j) : endOf (a ++ b) j = some a.length := by
  induction a generalizing j with
  | nil =>
    have : j = 0 := wood_uniq h wood_nil
    subst this
    exact endOf_zero _
  | cons x a ih =>
    obtain ⟨i, rfl, h1⟩ := wood_cons h
    rw [List.cons_append, endOf_cons, ih h1]
    simp

/-- How deep the trees are that stand one behind the other. -/
def stk : List Nd → List Nat
  | [] => []
  | x :: l => (((stk l).take (par x.1)).foldl max 0 + 1) :: (stk l).drop (par x.1)
theorem stk_cons (x : Nd) (l : List Nd) : stk (x :: l) = (((stk l).take (par x.1)).foldl max 0 + 1) :: (stk l).drop (par x.1) := rfl
theorem stk_len {l : List Nd} {k : Nat} (h : Wood l k) : (stk l).length = k := by
  induction l generalizing k with
  | nil => rw [wood_uniq h wood_nil]; rfl
  | cons x l ih =>
    obtain ⟨j, rfl, h1⟩ := wood_cons h
    have := ih h1
    simp [stk, this]
theorem stk_app {a b : List Nd} {k : Nat} (h : Wood a k) : stk (a ++ b) = stk a ++ stk b := by
  induction a generalizing k with
  | nil => rfl
  | cons x a ih =>
    obtain ⟨j, rfl, h1⟩ := wood_cons h
    have hl := stk_len h1
    rw [List.cons_append, stk_cons, stk_cons, ih h1]
    rw [List.take_append_of_le_length (by omega), List.drop_append_of_le_length (by omega)]
    rfl
theorem stk_lt (l : List Nd) : ∀ d ∈ stk l, 1 ≤ d ∧ d ≤ l.length := by
  induction l with
  | nil => simp [stk]
  | cons x l ih =>
    intro d hd
    rw [stk_cons, List.mem_cons] at hd
    rcases hd with rfl | hd
    · have hmax : ∀ (q : List Nat) (a : Nat), (∀ y ∈ q, y ≤ l.length) → a ≤ l.length → q.foldl max a ≤ l.length := by
        intro q
        induction q with
        | nil => intro a _ h; exact h
        | cons y q ihq =>
          intro a hq ha
          refine ihq _ (fun z hz => hq z (List.mem_cons_of_mem _ hz)) ?_
          have := hq y (by simp)
          omega
      have := hmax ((stk l).take (par x.1)) 0 (fun y hy => (ih y (List.mem_of_mem_take hy)).2) (by omega)
      simp only [List.length_cons]
      omega
    · have := ih d (List.mem_of_mem_drop hd)
      simp only [List.length_cons]
      omega
/-- How deep a filter is. -/
def dep (l : List Nd) : Nat := if Wood l 1 then (stk l).headD 0 else 0
theorem dep_not {l : List Nd} (h : ¬ Wood l 1) : dep l = 0 := by unfold dep; rw [if_neg h]
theorem dep_wood {l : List Nd} (h : Wood l 1) : stk l = [dep l] := by
  unfold dep
  rw [if_pos h]
  have hl := stk_len h
  match hs : stk l, hl with
  | [d], _ => rfl
theorem dep_le (l : List Nd) : dep l ≤ l.length := by
  unfold dep
  split
  · cases hs : stk l with
    | nil => simp
    | cons d q => exact (stk_lt l d (by rw [hs]; simp)).2
  · omega
theorem wood_end (l : List Nd) : endAt l 0 = (l.length : Int) ↔ Wood l 1 := by
  have := endAt_nat l 0
  simp only [Int.ofNat_zero, List.drop_zero, Int.zero_add, Int.natCast_zero] at this
  rw [show endAt l 0 = _ from this]
  unfold Wood
  cases endOf l 1 with
  | none => simp
  | some m => simp; omega
/-- What is wrong with a filter. -/
def lchk (l : List Nd) : Int :=
  if 31 < l.length then 4 else if l.all nok = false then 1 else if ¬ Wood l 1 then 1 else if 8 < dep l then 5 else 0
theorem lchk_ok {l : List Nd} (h : lchk l = 0) : l.length ≤ 31 ∧ (∀ n ∈ l, nok n = true) ∧ Wood l 1 ∧ dep l ≤ 8 := by
  unfold lchk at h
  by_cases h1 : 31 < l.length
  · rw [if_pos h1] at h; cases h
  · rw [if_neg h1] at h
    by_cases h2 : l.all nok = false
    · rw [if_pos h2] at h; cases h
    · rw [if_neg h2] at h
      by_cases h3 : ¬ Wood l 1
      · rw [if_pos h3] at h; cases h
      · rw [if_neg h3] at h
        by_cases h4 : 8 < dep l
        · rw [if_pos h4] at h; cases h
        · exact ⟨by omega, by simpa using h2, by simpa using h3, by omega⟩
theorem lchk_mk {l : List Nd} (h1 : l.length ≤ 31) (h2 : ∀ n ∈ l, nok n = true) (h3 : Wood l 1) (h4 : dep l ≤ 8) : lchk l = 0 := by
  unfold lchk
  rw [if_neg (by omega), if_neg (by simpa using h2), if_neg (by simpa using h3), if_neg (by omega)]
end Go.Proofs.Ytgpbglmlakildaa
