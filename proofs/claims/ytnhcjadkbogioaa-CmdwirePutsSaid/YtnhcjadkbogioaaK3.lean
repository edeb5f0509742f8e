/- bits.Each as an iterator, slices.Collect over it, and mask.Fields: what each returns. -/
import Derived.RangeFuncNested
import Derived.RangeFuncBound
import Derived.RangeFuncCalls
import Derived.RangeFuncLeaves
import Derived.RangeFuncBox
import Derived.Shelf.Abstract
import Derived.Shelf.RegionOpen
import Derived.OwnWalkIn
import Derived.TacticsInMore
import Derived.LoopNIn
import Derived.LoopIn
import Derived.Test.YtnhcjadkbogioaaK2
import Derived.Deep.RegionHeld3
import Derived.Laws.StructEq
import Derived.StillTail
namespace Go.Proofs.Ytnhcjadkbogioaa
set_option linter.unusedVariables false
open Go Go.RowKit Go.Shelf BitM
attribute [local go_sem] Oper.semAt_some

/-- The numbers of a set below k, rising. -/
def lst (x : BitVec 32) (k : Nat) : List Int := ((List.range k).filter fun i : Nat => has x (i : Int)).map fun i : Nat => (i : Int)
theorem lst_succ (x : BitVec 32) (k : Nat) : lst x (k + 1) = lst x k ++ if has x (k : Int) = true then [(k : Int)] else [] := by
  unfold lst
  rw [List.range_succ, List.filter_append, List.map_append]
  congr 1
  cases h : has x (k : Int) <;> simp [h]
theorem lst_len (x : BitVec 32) (k : Nat) : (lst x k).length ≤ k := by
  unfold lst
  rw [List.length_map]
  have := List.length_filter_le (fun i : Nat => has x (i : Int)) (List.range k)
  simpa using this
theorem lst_pre (x : BitVec 32) {j k : Nat} (h : j ≤ k) : lst x j <+: lst x k := by
  induction k with
  | zero => obtain rfl : j = 0 := by omega
            exact List.prefix_refl _
  | succ k ih =>
    by_cases e : j = k + 1
    · subst e; exact List.prefix_refl _
    · exact (ih (by omega)).trans (by rw [lst_succ]; exact List.prefix_append _ _)

set_option maxRecDepth 100000 in
set_option maxHeartbeats 1000000 in
theorem each1_in (n : Nat) (hn : 1 ≤ n) (l Bn n₀ : Nat) (x : BitVec 32) (J Jx : List Int → World → Prop) (hB : Bn < n₀)
    (hY : ∀ pre y W, J pre W → pre.length < 32 → YieldAt Fence.wide (n - 1) Try.prog l #[.int .i64 y] W fun e W' =>
      (e = .returned (.bool true) ∧ J (pre ++ [y]) W' ∧ Below n₀ W W') ∨ (e = .returned (.bool false) ∧ Jx (pre ++ [y]) W'))
    (W : World) (hBn : W.cell? ⟨Bn, 0, none⟩ = some (.int .u32 (x.toNat : Int))) (h0 : J [] W) :
    CallsIn Fence.wide n Try.prog 109 #[.func (.yield l) #[] #[], .pointer (some ⟨Bn, 0, none⟩)] W fun e W' => (∃ v, e = .returned v) ∧
      ((∃ ys, ys = lst x 32 ∧ J ys W') ∨ (∃ pre, pre <+: lst x 32 ∧ Jx pre W')) := by
  refine callsIn_of_wp Try.func109 rfl trivial ?_ rfl
  simp only [Try.ntmps109, List.size_toArray, List.length_cons, List.length_nil, Nat.reduceAdd, Nat.reduceSub, Array.replicate_succ, Array.replicate_zero, List.push_toArray, List.append_toArray, List.nil_append, List.cons_append]
  gi_wp2
  gi_loopw [4] (fun i wr => ∃ k : Nat, k ≤ 32 ∧ i = .int .i64 k ∧ J (lst x k) wr ∧ wr.cell? ⟨Bn, 0, none⟩ = some (.int .u32 (x.toNat : Int)))
    (fun i wr => 32 - (intOf i).toNat)
  case atStart => exact ⟨0, by omega, rfl, h0, hBn⟩
  case round =>
    obtain ⟨k, hk, rfl, hJ, hc⟩ := hrel
    by_cases hlt : k < 32
    · have d1 : decide ((k : Int) < 32) = true := by simp; omega
      cases hb : has x (k : Int) with
      | true =>
        have HS := Lib.hid (show lst x (k + 1) = lst x k ++ [(k : Int)] from by rw [lst_succ, hb]; rfl)
        have hlen := lst_len x k
        obtain ⟨fn, tmps, assign, body, hy, hR⟩ := hY (lst x k) (k : Int) wr hJ (by omega)
        have HH := Lib.hid (has_any x (k : Int) wr)
        rw [hb] at HH
        clear hb
        gi_wp2_with fail
        refine ⟨trivial, (callsIn_wide.2 HH.out).mono ?_⟩
        rintro e w' ⟨rfl, rfl⟩
        gi_wp2
        refine hR.mono ?_
        rintro e W3 (⟨rfl, hJ3, hk3⟩ | ⟨rfl, hJx3⟩)
        · have hc3 := (hk3.cell (p := ⟨Bn, 0, none⟩) hB).trans hc
          gi_wp2
          go_roundw
          case rel => exact ⟨k + 1, by omega, by go_num, by rw [HS.out]; exact hJ3, hc3⟩
          case measure => simp [intOf]; omega
        · gi_wp2
          refine bodyPost_ret (results_none rfl _ _ _) rfl ?_
          exact ⟨⟨_, rfl⟩, .inr ⟨lst x k ++ [(k : Int)], by rw [← HS.out]; exact lst_pre x (by omega), hJx3⟩⟩
      | false =>
        have HS := Lib.hid (show lst x (k + 1) = lst x k from by rw [lst_succ, hb]; simp)
        have HH := Lib.hid (has_any x (k : Int) wr)
        rw [hb] at HH
        clear hb
        gi_wp2_with fail
        refine ⟨trivial, (callsIn_wide.2 HH.out).mono ?_⟩
        rintro e w' ⟨rfl, rfl⟩
        gi_wp2
        refine ⟨fun _ h => (by cases h), ?_⟩
        gi_wp2
        go_roundw
        case rel => exact ⟨k + 1, by omega, by go_num, by rw [HS.out]; exact hJ, hc⟩
        case measure => simp [intOf]; omega
    · obtain rfl : k = 32 := by omega
      gi_wp2
      go_end0
      exact ⟨⟨_, rfl⟩, .inl ⟨_, rfl, hJ⟩⟩

theorem each_any (x : BitVec 32) (w : World) : Calls Try.prog 104 #[.int .u32 (x.toNat : Int)] w fun e w' =>
    e = .returned (.func (.func 109) #[] #[.pointer (some ⟨w.heap.size, 0, none⟩)]) ∧ w' = w.alloc (.cells #[.int .u32 (x.toNat : Int)] 22) := by
  go_enter Try.func104, Try.ntmps104
  go_wp2
  go_ret
  exact ⟨rfl, rfl⟩

theorem each_stops (n : Nat) (hn : 1 ≤ n) (Bn n₀ : Nat) (x : BitVec 32) (w : World) (hBn : Bn < w.heap.size) (hB : Bn < n₀) (hc : w.cell? ⟨Bn, 0, none⟩ = some (.int .u32 (x.toNat : Int))) :
    SeqStopsK Fence.wide n Try.prog 109 #[.pointer (some ⟨Bn, 0, none⟩)] (fun y : Int => #[Value.int .i64 y]) (Below n₀) (fun ys => ys = lst x 32) (fun pre => pre <+: lst x 32) 32 w :=
  fun l J Jx W hW _ _ hY h0 => each1_in n hn l Bn n₀ x J Jx hB hY W ((hW.cell (p := ⟨Bn, 0, none⟩) hBn).trans hc) h0

theorem info_int : (Try.prog.info? 3).map (fun i => (i.zero, i.size, i.bytes)) = some (some (.int .i64 0), 1, 8) := by kernel_rfl

set_option maxRecDepth 100000 in
set_option maxHeartbeats 2000000 in
theorem append_seq (x : BitVec 32) (Bn : Nat) (w : World) (hBn : Bn < w.heap.size) (hc : w.cell? ⟨Bn, 0, none⟩ = some (.int .u32 (x.toNat : Int))) :
    Calls Try.prog 108 #[.slice none 0 0, .func (.func 109) #[] #[.pointer (some ⟨Bn, 0, none⟩)]] w fun e W' =>
      ∃ v, e = .returned v ∧ W'.ownsRow w.heap.size 3 1 v (lst x 32).length ((lst x 32).map (Value.int .i64)) ∧ Below w.heap.size w W' := by
  refine (callsIn_wide (n := 5)).1 ?_
  obtain ⟨i0, hi, hz0, hz1, hz2⟩ := info_parts info_int
  refine callsIn_of_wp_marks Try.func108 rfl trivial ?_ rfl
  simp only [Try.ntmps108, List.size_toArray, List.length_cons, List.length_nil, Nat.reduceAdd, Nat.reduceSub, Array.replicate_succ, Array.replicate_zero, List.push_toArray, List.append_toArray, List.nil_append, List.cons_append]
  gi_wp2
  have bO := Boxed.new w 103 (.slice none 0 0)
  have hB0 : Below w.heap.size w (w.alloc (.cells #[.slice none 0 0] 103)) := (Below.refl _ w).alloc (Nat.le_refl _) _
  refine wpIn_rangeFunc_ownG (F := Fence.wide) rfl (by omega) (gf := 109) (lb := #[.pointer (some ⟨Bn, 0, none⟩)]) rfl trivial (enters_of Try.func109 (by kernel_rfl) rfl)
    (each_stops (5 - 1) (by omega) Bn w.heap.size x (w.alloc (.cells #[.slice none 0 0] 103)) (by simp; omega) hBn ((hB0.cell (p := ⟨Bn, 0, none⟩) hBn).trans hc)) belowK_t (belowK_b (by simp)) (Below.refl _ _) (fun _ => rfl)
    (fun pre W => (∃ v, Boxed W w.heap.size 103 v ∧ W.ownsRow w.heap.size 3 1 v pre.length (pre.map (Value.int .i64)) ∧ True) ∧ Below w.heap.size w W)
    (fun _ _ _ => False)
    (OwnFrom.and (Own.from (holdsRow_own w.heap.size w.heap.size 103 3 1 (fun pre : List Int => pre.length) (fun pre => pre.map (Value.int .i64)) (fun _ _ => True)) _) (ownFrom_below (Nat.le_refl _) (by simp)))
    (fun _ _ _ _ _ hs _ _ => hs)
    ⟨⟨_, bO, World.ownsRow_nil _ _ _ _, trivial⟩, hB0⟩
    (fun y => { tmps := #[.slice none 0 0, .func (.func 109) #[] #[.pointer (some ⟨Bn, 0, none⟩)], .pointer (some ⟨w.heap.size, 0, none⟩), undef, .slice none 0 0, .int .i64 y, .func (.func 109) #[] #[.pointer (some ⟨Bn, 0, none⟩)], .int .i64 y, undef, undef, undef, undef, undef], defers := [] }) ?assign ?body ?done ?stop
  case assign =>
    intro l y W K hK
    gi_wp2
    exact hK
  case body =>
    rintro l pre y W ⟨⟨v, hv, hrow, _⟩, hB⟩ hlt
    have hc := hv.cell
    have hm63 : pre.length + 1 ≤ maxLen := by unfold maxLen; omega
    gi_wp2_with (gi_at_builtin; refine wpListIn_append_own _ rfl _ _ 103 rfl w.heap.size 3 i0 (.int .i64 0) 1 8 Try.underlying103 hi hz0 hz1 hz2 rfl (by decide) _ _ _ rfl (hrow.alloc _) ⟨W.heap.size, 0, none⟩ 1 1 [.int .i64 y] rfl rfl (cell_one_new _ _ _) (by simp [Value.oneCell']) (by omega) (by omega) (by have := hB.size; simp; omega) ?_; intro v' w1 hown' hgrow _; obtain ⟨g', cap', rfl⟩ := ownsRow_succ hown'; obtain ⟨hv1, hv2, hr2, hk2, hb2⟩ := hv.appended (by decide) hrow hB.size (Nat.le_refl _) hown' hgrow; have hc1 := hv1.cell; have hf1 := hv1.frozen)
    exact ⟨hk2.from _, hb2, ⟨_, hv2, by simpa using hr2, trivial⟩, hB.trans hb2⟩
  case done =>
    rintro D ys W hD rfl ⟨⟨v, hv, hrow, _⟩, hB⟩ hK
    have hc := hv.cell
    gi_wp2
    refine ⟨by simp, .inl ⟨_, _, rfl, run_takeDeferred hK, ?_⟩⟩
    exact ⟨_, results_tmp rfl _ _ _, v, rfl, ownsRow_putObj hrow _ hK rfl, hB.trans (belowK_b (w := w) (Nat.le_refl _) W D _ _ (by simp at hD; omega) hK rfl rfl)⟩
  case stop =>
    rintro D c pre W _ _ h _
    exact h.elim

theorem collect_any (x : BitVec 32) (Bn : Nat) (w : World) (hBn : Bn < w.heap.size) (hc : w.cell? ⟨Bn, 0, none⟩ = some (.int .u32 (x.toNat : Int))) :
    Calls Try.prog 103 #[.func (.func 109) #[] #[.pointer (some ⟨Bn, 0, none⟩)]] w fun e W' =>
      ∃ v, e = .returned v ∧ W'.ownsRow w.heap.size 3 1 v (lst x 32).length ((lst x 32).map (Value.int .i64)) ∧ Below w.heap.size w W' := by
  have H := Lib.hid (append_seq x Bn w hBn hc)
  clear hc hBn
  go_enter Try.func103, Try.ntmps103
  go_wp2_with fail
  refine H.out.mono ?_
  rintro e w1 ⟨v, rfl, ho, hb⟩
  have HO := Lib.hid ho
  clear ho
  go_wp2_with fail
  go_ret
  exact ⟨v, rfl, HO.out, hb⟩

/-- The fields of a mask. -/
def flds (x : BitVec 32) : List Int := lst (x &&& 255#32) 32
theorem flds_len (x : BitVec 32) : (flds x).length ≤ 32 := lst_len _ _
theorem fields_any (x : BitVec 32) (w : World) : Calls Try.prog 87 #[.int .u32 (x.toNat : Int)] w fun e w' =>
    ∃ A c, e = .returned (.slice A (flds x).length c) ∧ Own w' w.heap.size 3 (.slice A (flds x).length c) (ivs (flds x)) ∧ Below w.heap.size w w' := by
  have h1 := BitM.u32_and x 255#32
  have h2 : (255 : Int) = ((255#32 : BitVec 32).toNat : Int) := rfl
  rw [← h2] at h1
  unfold flds
  generalize x &&& 255#32 = r at h1 ⊢
  clear h2
  go_enter Try.func87, Try.ntmps87
  go_wp2_with fail
  refine (each_any r w).mono ?_
  rintro e w1 ⟨rfl, rfl⟩
  have H := Lib.hid (collect_any r w.heap.size (w.alloc (.cells #[.int .u32 (r.toNat : Int)] 22)) (by simp) (Boxed.new w 22 (.int .u32 (r.toNat : Int))).cell)
  go_wp2_with fail
  refine H.out.mono ?_
  rintro e w2 ⟨v, rfl, ho, hb⟩
  have ho2 : Own w2 w.heap.size 3 v (ivs (lst r 32)) := Own.lower (base := (w.alloc (.cells #[.int .u32 (r.toNat : Int)] 22)).heap.size) (by unfold Own; rw [ivs_length]; exact ho) (by simp)
  obtain ⟨A, c, hv⟩ := ho2.form
  rw [ivs_length] at hv
  subst hv
  have HO := Lib.hid ho2
  have hb2 : Below w.heap.size w w2 := ((Below.refl _ w).alloc (Nat.le_refl _) _).trans (hb.mono (by simp))
  clear ho ho2 hb
  go_wp2_with fail
  go_ret
  exact ⟨A, c, rfl, HO.out, hb2⟩
end Go.Proofs.Ytnhcjadkbogioaa

/- More of sets: masks, their fields, labels; both masks; what is in all of a list. -/
namespace Go.Proofs.Ytnhcjadkbogioaa
set_option linter.unusedVariables false
open Go Go.RowKit BitM

theorem low_bit (n i : Nat) : (2 ^ n - 1 : Nat).testBit i = decide (i < n) := Nat.testBit_two_pow_sub_one n i
theorem bit_255 (i : Nat) : (255#32 : BitVec 32).getLsbD i = decide (i < 8) := low_bit 8 i
theorem bit_511 (i : Nat) : (511#32 : BitVec 32).getLsbD i = decide (i < 9) := low_bit 9 i
theorem le_511 (x : BitVec 32) : decide (x.toNat ≤ 511) = true ↔ ∀ i, 9 ≤ i → i < 32 → x.getLsbD i = false := by
  rw [decide_eq_true_iff]
  constructor
  · intro h i h9 _
    have : x.toNat < 2 ^ i := Nat.lt_of_lt_of_le (by omega : x.toNat < 2 ^ 9) (Nat.pow_le_pow_right (by omega) h9)
    exact Nat.testBit_lt_two_pow this
  · intro h
    have : x.toNat < 2 ^ 9 := by
      apply Nat.lt_pow_two_of_testBit
      intro i hi
      by_cases h32 : i < 32
      · exact h i hi h32
      · exact BitVec.getLsbD_of_ge x i (by omega)
    omega
theorem check_eq (x : BitVec 32) : (x &&& ~~~511#32 == 0#32) = decide (x.toNat ≤ 511) := by
  rw [Bool.eq_iff_iff, le_511, beq_iff_eq]
  constructor
  · intro h i h9 h32
    have := congrArg (fun v : BitVec 32 => v.getLsbD i) h
    simp only [BitVec.getLsbD_and, BitVec.getLsbD_not, bit_511, BitVec.getLsbD_zero] at this
    simpa [h32, show ¬ i < 9 by omega] using this
  · intro h
    apply BitVec.eq_of_getLsbD_eq
    intro i hi
    simp only [BitVec.getLsbD_and, BitVec.getLsbD_not, bit_511, BitVec.getLsbD_zero]
    by_cases h9 : i < 9
    · simp [h9]
    · simp [h i (by omega) hi]
theorem has_and_255 (x : BitVec 32) (n : Int) : has (x &&& 255#32) n = (has x n && decide (n < 8)) := by
  by_cases h : 0 ≤ n ∧ n < 32
  · obtain ⟨k, rfl⟩ := Int.eq_ofNat_of_zero_le h.1
    have hk : k < 32 := by omega
    rw [has_in _ hk, has_in _ hk, BitVec.getLsbD_and, bit_255]
    congr 1
    rw [Bool.eq_iff_iff]; simp; omega
  · rw [has_out _ h, has_out _ h]; rfl
theorem mem_lst (x : BitVec 32) (k : Nat) (n : Int) : n ∈ lst x k ↔ (0 ≤ n ∧ n < k ∧ has x n = true) := by
  unfold lst
  rw [List.mem_map]
  constructor
  · rintro ⟨i, hi, rfl⟩
    rw [List.mem_filter, List.mem_range] at hi
    exact ⟨by omega, by omega, hi.2⟩
  · rintro ⟨h0, h1, h2⟩
    obtain ⟨i, rfl⟩ := Int.eq_ofNat_of_zero_le h0
    exact ⟨i, List.mem_filter.2 ⟨List.mem_range.2 (by omega), h2⟩, rfl⟩
theorem mem_flds (x : BitVec 32) (n : Int) : n ∈ flds x ↔ (0 ≤ n ∧ n < 8 ∧ has x n = true) := by
  unfold flds
  rw [mem_lst, has_and_255]
  simp only [Bool.and_eq_true, decide_eq_true_eq]
  constructor
  · rintro ⟨a, b, c, d⟩; exact ⟨a, d, c⟩
  · rintro ⟨a, b, c⟩; exact ⟨a, by omega, c, b⟩
theorem flds_in (x : BitVec 32) (j : Nat) (h : j < (flds x).length) : ∃ i : Nat, i < 8 ∧ (flds x)[j] = (i : Int) := by
  have := (mem_flds x (flds x)[j]).1 (List.getElem_mem h)
  obtain ⟨i, hi⟩ := Int.eq_ofNat_of_zero_le this.1
  exact ⟨i, by omega, hi⟩

theorem labels_any (x : BitVec 32) (w : World) : Calls Try.prog 50 #[.int .u32 (x.toNat : Int)] w fun e w' => e = .returned (.bool (has x 8)) ∧ w = w' := by
  have h1 := BitM.u32_and x (one 8)
  have h3 : ((one 8).toNat : Int) = 256 := rfl
  rw [h3] at h1
  have h2 := (nat_ne0 (x &&& one 8)).trans (and_one x 8)
  generalize x &&& one 8 = r at h1 h2
  clear h3
  go_enter Try.func50, Try.ntmps50
  go_wp2_with fail
  go_ret
  exact ⟨rfl, rfl⟩
theorem rlabels_any (x : BitVec 32) (w : World) : Calls Try.prog 59 #[.int .u32 (x.toNat : Int)] w fun e w' => e = .returned (.bool (has x 8)) ∧ w = w' := by
  go_enter Try.func59, Try.ntmps59
  go_wp2_with fail
  refine (rhas_any x 8 w).mono ?_
  rintro e w' ⟨rfl, rfl⟩
  go_wp2_with fail
  go_ret
  exact ⟨rfl, rfl⟩
theorem mcheck_any (x : BitVec 32) (w : World) : Calls Try.prog 46 #[.int .u32 (x.toNat : Int)] w fun e w' => e = .returned (.bool (decide (x.toNat ≤ 511))) ∧ w = w' := by
  have H := Lib.hid (within_any x 511#32 w)
  rw [check_eq] at H
  go_enter Try.func46, Try.ntmps46
  go_wp2_with fail
  refine H.out.mono ?_
  rintro e w' ⟨rfl, rfl⟩
  go_wp2_with fail
  go_ret
  exact ⟨rfl, rfl⟩
theorem rmcheck_any (x : BitVec 32) (w : World) : Calls Try.prog 40 #[.int .u32 (x.toNat : Int)] w fun e w' => e = .returned (.bool (decide (x.toNat ≤ 511))) ∧ w = w' := by
  have h1 : decide ((x.toNat : Int) ≤ 511) = decide (x.toNat ≤ 511) := by rw [decide_eq_decide]; omega
  by_cases h : x.toNat ≤ 511
  · rw [decide_eq_true h] at h1 ⊢
    go_enter Try.func40, Try.ntmps40
    go_wp2_with fail
    go_ret
    exact ⟨rfl, rfl⟩
  · rw [decide_eq_false h] at h1 ⊢
    go_enter Try.func40, Try.ntmps40
    go_wp2_with fail
    go_ret
    exact ⟨rfl, rfl⟩

end Go.Proofs.Ytnhcjadkbogioaa

/- What a mask shows of labels and fields: what each returns. -/
namespace Go.Proofs.Ytnhcjadkbogioaa
set_option linter.unusedVariables false
open Go Go.RowKit BitM

theorem grown_setCell (w : World) (b j : Nat) (v : Value) : w.grownBy (w.setCell ⟨b, j, none⟩ v) (some b) :=
  ⟨rfl, rfl, rfl, by simp [World.setCell], fun k _ hk => Below.heap_setCell _ _ _ k (fun e => hk (by rw [e]))⟩
theorem grown_sets (b : Nat) : ∀ (vs : List Value) (o : Nat) (w : World), w.grownBy (w.setCells b o vs) (some b)
  | [], _, w => World.grownBy.refl w _
  | v :: vs, o, w => (grown_setCell w b o v).trans (grown_sets b vs (o + 1) _)
theorem Own.setsOther {w : World} {base : Nat} {e : TypeId} {v : Value} {xs : List Value} (h : Own w base e v xs) {b : Nat} (hb : b < base) (vs : List Value) (o : Nat) : Own (w.setCells b o vs) base e v xs := by
  refine h.kept (grown_sets b vs o w) ?_
  have hl := h.lt
  rcases hv : v.ownBlock with _ | g
  · exact .inl rfl
  · refine .inr fun e' => ?_
    have := hl g hv
    cases e'
    omega

section
variable {P : Program} {ops : List Oper} {Q : Exit → Act → World → Prop}
/-- In a drawn region: number i is taken first, for it yields v in whatever world. -/
theorem wpAny_yield (i : Nat) {oi : Oper} (v : Value) {fuel : Nat} {listed : Array Bool} {a : Act} {w : World} (hi : ops[i]? = some oi)
    (hs : Region.noSelect ops.toArray = true) (hf : Region.free .any ops.toArray listed i = true) (hr : (Region.ready .any ops.toArray listed).contains i = true)
    (hQ : ∀ c a w, Q (.panic c) (a.put oi.dst v) w → Q (.panic c) a w) (hw : Region.wanted oi (yielded ops.toArray a.tmps) = true) (hy : ∀ w, (execOp a.eval oi).run P w = .ok (.value v) w)
    (h : wpAny P .any ops.toArray Q fuel (listed.setIfInBounds i true) (a.put oi.dst v) w) : wpAny P .any ops.toArray Q (fuel + 1) listed a w :=
  wpAny_take (by rw [List.getElem?_toArray]; exact hi) hs hf hr hQ (.inl ⟨hw, hy⟩) h
/-- In a drawn region: number i alone may come up. -/
theorem wpAny_one (i : Nat) {oi : Oper} {fuel : Nat} {listed : Array Bool} {a : Act} {w : World} (hi : ops[i]? = some oi) (hr : Region.ready .any ops.toArray listed = [i]) (hw : Region.wanted oi (yielded ops.toArray a.tmps) = true)
    (h : oi.wp P a w (wpAny P .any ops.toArray Q fuel (listed.setIfInBounds i true)) Q) : wpAny P .any ops.toArray Q (fuel + 1) listed a w :=
  wpAny_all hr (by simp) (fun j hj => by
    obtain rfl : j = i := by simpa using hj
    unfold wpOp
    simp only [List.getElem?_toArray, hi, hw, if_true]
    exact .inl h)
end

theorem results_tmp_blk {P : Program} {fn : Func} {p q : Tmp} {ty : TypeId} (h : fn.results = #[.tmp p, .cell q ty]) (tmps : Array Value) (w : World) (g : Nat) (cs : List Value) (d : TypeDesc) (v : Value) (hp : tmps.getD p undef = v)
    (hq : tmps.getD q undef = .pointer (some ⟨g, 0, none⟩)) (hB : Blk w g cs)
    (hu : P.underlying ty = some d) (hd : (match d with | .struct _ | .array _ _ => true | _ => false) = true) (hi : (P.info? ty).map (·.size) = some cs.length) :
    (results fn tmps).run P w = .ok (.tuple #[v, .agg cs.toArray]) w := by
  obtain ⟨t, hB⟩ := hB
  subst hp
  have hq' : tmps[q]?.getD undef = .pointer (some ⟨g, 0, none⟩) := by simpa using hq
  simp [results, h, hq', asAddr, run_loadVar_row w g t ty cs.toArray (0, 0) d hB hu hd (by simpa using hi)]

def zeros : List V3 := List.replicate 8 zv
theorem zeros_len : zeros.length = 8 := rfl
/-- Which fields the first k numbers of a list name. -/
def inl (l : List Int) (k : Nat) : Nat → Bool := fun i => decide ((i : Int) ∈ l.take k)
theorem inl_zero (l : List Int) : inl l 0 = fun _ => false := by
  funext i; simp [inl]
theorem inl_succ (l : List Int) (k i : Nat) (h : k < l.length) (hi : l[k] = (i : Int)) : inl l (k + 1) = fun j => inl l k j || j == i := by
  funext j
  unfold inl
  rw [List.take_succ_eq_append_getElem h, hi]
  rw [Bool.eq_iff_iff]
  simp only [List.mem_append, List.mem_singleton, Bool.or_eq_true, decide_eq_true_eq, beq_iff_eq]
  rw [show ((j : Int) = (i : Int)) ↔ j = i from by omega]
theorem inl_flds (x : BitVec 32) (a c : List V3) : mix (inl (flds x) (flds x).length) a c = mix (fun i => has x (i : Int)) a c := by
  apply mix_congr
  intro i hi
  unfold inl
  rw [List.take_length, Bool.eq_iff_iff, decide_eq_true_iff, mem_flds]
  constructor
  · rintro ⟨_, _, h⟩; exact h
  · intro h; exact ⟨by omega, by omega, h⟩

/-- A step of the loop: a field is laid into another row of fields. -/
theorem blk_field {w : World} {g : Nat} (p : Nat → Bool) (f c : List V3) (pre : List Value) (i : Nat) (hi : i < 8) (hf : i < f.length) (h : Blk w g (pre ++ fcells (mix p f c))) :
    Blk (w.setCells g (pre.length + i * 3) (vcells f[i])) g (pre ++ fcells (mix (fun j => p j || j == i) f c)) := by
  have hl : (fcells (mix p f c)).length = 24 := by rw [fcells_len, mix_len]
  have h2 := h.sets (vcells f[i]) (pre.length + i * 3) (by rw [List.length_append, hl]; show _ + 3 ≤ _; omega)
  have e : (pre ++ fcells (mix p f c)).take (pre.length + i * 3) ++ vcells f[i] ++ (pre ++ fcells (mix p f c)).drop (pre.length + i * 3 + (vcells f[i]).length) = pre ++ fcells (mix (fun j => p j || j == i) f c) := by
    rw [show (vcells f[i]).length = 3 from rfl, List.take_append, List.drop_append, Nat.add_sub_cancel_left]
    rw [List.take_of_length_le (by omega), List.drop_eq_nil_of_le (by omega), List.nil_append, show pre.length + i * 3 + 3 - pre.length = 3 * i + 3 by omega, Nat.mul_comm i 3]
    rw [List.append_assoc, List.append_assoc, ← List.append_assoc ((fcells (mix p f c)).take _), fcells_set _ _ _ (by rw [mix_len]; exact hi), mix_set p f c i hi hf]
  rw [e] at h2
  exact h2
theorem Blk.field {w : World} {g : Nat} {pre : List Value} {f : List V3} (h : Blk w g (pre ++ fcells f)) (o i : Nat) (ho : pre.length = o) (hi : i < f.length) :
    w.cell? ⟨g, o + i * 3, none⟩ = some (.int .i64 f[i].1) ∧ w.cell? ⟨g, o + i * 3 + 1, none⟩ = some (.int .i64 f[i].2.1) ∧ w.cell? ⟨g, o + i * 3 + 2, none⟩ = some (.string f[i].2.2) := by
  subst ho
  have h2 := fcells_get f i hi
  rw [Nat.mul_comm i 3]
  refine ⟨h.cell ?_, h.cell ?_, h.cell ?_⟩
  · rw [List.getElem?_append_right (by omega), Nat.add_sub_cancel_left]; exact h2.1
  · rw [List.getElem?_append_right (by omega), show pre.length + 3 * i + 1 - pre.length = 3 * i + 1 by omega]; exact h2.2.1
  · rw [List.getElem?_append_right (by omega), show pre.length + 3 * i + 2 - pre.length = 3 * i + 2 by omega]; exact h2.2.2
theorem Blk.field0 {w : World} {g : Nat} {f : List V3} (h : Blk w g (fcells f)) (i : Nat) (hi : i < f.length) :
    w.cell? ⟨g, i * 3, none⟩ = some (.int .i64 f[i].1) ∧ w.cell? ⟨g, i * 3 + 1, none⟩ = some (.int .i64 f[i].2.1) ∧ w.cell? ⟨g, i * 3 + 2, none⟩ = some (.string f[i].2.2) := by
  have := Blk.field (pre := []) (o := 0) h i rfl hi
  simpa using this

set_option maxRecDepth 100000 in
set_option maxHeartbeats 3200000 in
theorem shown_any (lb : Int) (x : BitVec 32) (f : List V3) (w : World) (hf : f.length = 8) :
    Calls Try.prog 81 #[.int .u32 lb, .agg (fcells f).toArray, .int .u32 (x.toNat : Int)] w fun e w' =>
      e = .returned (.tuple #[.int .u32 (if has x 8 then lb else 0), .agg (fcells (mix (fun i => has x (i : Int)) f zeros)).toArray]) ∧ Below w.heap.size w w' := by
  obtain ⟨rl, hrl⟩ : ∃ r : Int, r = (if has x 8 then lb else 0) := ⟨_, rfl⟩
  rw [← hrl]
  have HRL := Lib.hid hrl
  clear hrl
  have B0 := Blk.new w (fcells f) 25
  obtain ⟨arr, harr⟩ : ∃ arr, arr = (fcells f).toArray := ⟨_, rfl⟩
  rw [← harr] at B0 ⊢
  have B1 := Blk.new (w.alloc (.cells arr 25)) (fcells zeros) 25
  have B2 := Blk.new ((w.alloc (.cells arr 25)).alloc (.cells (fcells zeros).toArray 25)) (fcells zeros) 25
  have hw0 := (((Below.refl w.heap.size w).alloc (Nat.le_refl _) (.cells arr 25)).alloc (by simp) (.cells (fcells zeros).toArray 25)).alloc (by simp; omega) (.cells (fcells zeros).toArray 25)
  replace B1 := B1.alloc (.cells (fcells zeros).toArray 25)
  replace B0 := (B0.alloc (.cells (fcells zeros).toArray 25)).alloc (.cells (fcells zeros).toArray 25)
  have HF := Lib.hid hf
  have HFL := Lib.hid (fields_any x (((w.alloc (.cells arr 25)).alloc (.cells (fcells zeros).toArray 25)).alloc (.cells (fcells zeros).toArray 25)))
  have hsz : (((w.alloc (.cells arr 25)).alloc (.cells (fcells zeros).toArray 25)).alloc (.cells (fcells zeros).toArray 25)).heap.size = w.heap.size + 3 := by simp
  have hs2 : ((w.alloc (.cells arr 25)).alloc (.cells (fcells zeros).toArray 25)).heap.size = w.heap.size + 2 := by simp
  have hs1 : (w.alloc (.cells arr 25)).heap.size = w.heap.size + 1 := by simp
  rw [hs1] at B1
  rw [hs2] at B2
  generalize hW : ((w.alloc (.cells arr 25)).alloc (.cells (fcells zeros).toArray 25)).alloc (.cells (fcells zeros).toArray 25) = W at *
  have HW := Lib.hid hW
  have HB := Lib.hid hw0
  have HSZ := Lib.hid hsz
  clear hf harr hsz hs1 hs2 hW hw0
  go_enter Try.func81, Try.ntmps81
  go_wp2_with fail
  have hzc : (fcells zeros).toArray = #[Value.int .i64 0, .int .i64 0, .string { data := #[] }, .int .i64 0, .int .i64 0, .string { data := #[] }, .int .i64 0, .int .i64 0, .string { data := #[] }, .int .i64 0, .int .i64 0, .string { data := #[] }, .int .i64 0, .int .i64 0, .string { data := #[] }, .int .i64 0, .int .i64 0, .string { data := #[] }, .int .i64 0, .int .i64 0, .string { data := #[] }, .int .i64 0, .int .i64 0, .string { data := #[] }] := rfl
  rw [← hzc, HW.out]
  clear hzc
  refine HFL.out.mono ?_
  rintro e w1 ⟨A, c, rfl, ho, hb⟩
  have C0 := B0.later hb
  have C1 := B1.later hb
  have C2 := B2.later hb
  have hbw : Below w.heap.size w w1 := HB.out.trans (hb.mono (by rw [HSZ.out]; omega))
  replace ho : Own w1 (w.heap.size + 3) 3 (.slice A (flds x).length c) (ivs (flds x)) := by rw [HSZ.out] at ho; exact ho
  have hfl := flds_len x
  clear B0 B1 B2 HFL HB HSZ hb
  go_wp2_with fail
  obtain ⟨n, hn⟩ : ∃ n, n = (flds x).length := ⟨_, rfl⟩
  rw [← hn] at ho hfl ⊢
  have HN := Lib.hid hn
  clear hn
  go_loopw [14] (fun i wr => ∃ k : Nat, k ≤ n ∧ i = .int .i64 k ∧ Blk wr w.heap.size (fcells f) ∧ Blk wr (w.heap.size + 1) (fcells zeros) ∧ Blk wr (w.heap.size + 2) (fcells (mix (inl (flds x) k) f zeros)) ∧ Own wr (w.heap.size + 3) 3 (.slice A n c) (ivs (flds x)) ∧ Below w.heap.size w wr)
    (fun i _ => n - (intOf i).toNat)
  case atStart => exact ⟨0, Nat.zero_le _, rfl, C0, C1, by rw [inl_zero, mix_none _ _ zeros_len]; exact C2, ho, hbw⟩
  case round =>
    obtain ⟨k, hk, rfl, D0, D1, D2, hown, hbr⟩ := hrel
    clear C0 C1 C2 ho hbw
    by_cases hlt : k < n
    · have hkl : k < (flds x).length := by rw [← HN.out]; exact hlt
      obtain ⟨i, hi8, hik⟩ := flds_in x k hkl
      obtain ⟨b, o, rfl, hb, hc⟩ := hown.sees.int k hkl
      rw [hik] at hc
      have hif : i < f.length := by rw [HF.out]; exact hi8
      obtain ⟨l0, l1, l2⟩ := D0.field0 i hif
      obtain ⟨s0, s1, s2⟩ := D2.field0 i (by rw [mix_len]; exact hi8)
      have f0 := D2.frozen (i * 3)
      have f1 := D2.frozen (i * 3 + 1)
      have f2 := D2.frozen (i * 3 + 2)
      have d8 : (i : Int) < 8 := by omega
      have E2 := blk_field (w := wr) (g := w.heap.size + 2) (inl (flds x) k) f zeros [] i hi8 hif D2
      rw [← inl_succ (flds x) k i hkl hik] at E2
      have E0 := Blk.setsOther (b := w.heap.size + 2) (g := w.heap.size) (by omega) (vcells f[i]) (0 + i * 3) D0
      have E1 := Blk.setsOther (b := w.heap.size + 2) (g := w.heap.size + 1) (by omega) (vcells f[i]) (0 + i * 3) D1
      have EO := hown.setsOther (b := w.heap.size + 2) (by omega) (vcells f[i]) (0 + i * 3)
      have EB := below_sets (B := w.heap.size) (b := w.heap.size + 2) (by omega) (vcells f[i]) (0 + i * 3) hbr
      obtain ⟨v, hv⟩ : ∃ v, v = f[i] := ⟨_, rfl⟩
      rw [← hv] at l0 l1 l2 E0 E1 E2 EO EB
      obtain ⟨v0, v1, v2⟩ := v
      simp only at l0 l1 l2
      have R : Hid (Blk (wr.setCells (w.heap.size + 2) (0 + i * 3) (vcells (v0, v1, v2))) w.heap.size (fcells f) ∧ Blk (wr.setCells (w.heap.size + 2) (0 + i * 3) (vcells (v0, v1, v2))) (w.heap.size + 1) (fcells zeros) ∧ Blk (wr.setCells (w.heap.size + 2) (0 + i * 3) (vcells (v0, v1, v2))) (w.heap.size + 2) (fcells (mix (inl (flds x) (k + 1)) f zeros)) ∧ Own (wr.setCells (w.heap.size + 2) (0 + i * 3) (vcells (v0, v1, v2))) (w.heap.size + 3) 3 (.slice (some ⟨b, o, none⟩) n c) (ivs (flds x)) ∧ Below w.heap.size w (wr.setCells (w.heap.size + 2) (0 + i * 3) (vcells (v0, v1, v2)))) := ⟨E0, E1, E2, EO, EB⟩
      clear hv E0 E1 E2 EO EB hik D0 D1 D2
      rw [Nat.zero_add] at R
      go_wp2_with fail
      go_roundw
      case rel => exact ⟨k + 1, by omega, by go_num, R.out⟩
      case measure => simp [intOf]; omega
    · obtain rfl : k = n := by omega
      have hz : mix (inl (flds x) k) f zeros = mix (fun i => has x (i : Int)) f zeros := by rw [HN.out]; exact inl_flds x f zeros
      rw [hz] at D2
      clear hz hown
      have HL := Lib.hid (labels_any x wr)
      have R2 := D2.range 0 (fcells (mix (fun i => has x (i : Int)) f zeros)) (by rw [List.drop_zero, List.take_length])
      have T1 := D1.there 0 24 (by rw [fcells_len, zeros_len]; omega)
      have hu := Try.underlying25
      obtain ⟨cs, hcs⟩ : ∃ cs, cs = fcells (mix (fun i => has x (i : Int)) f zeros) := ⟨_, rfl⟩
      have hlen : cs.length = 24 := by rw [hcs, fcells_len, mix_len]
      have hi : (Try.prog.info? 25).map (·.size) = some cs.length := by rw [hlen]; kernel_rfl
      have hone : ∀ v ∈ cs, v.oneCell' = true := by rw [hcs]; exact fcells_one _
      rw [← hcs] at R2
      have HI := Lib.hid hi
      have HCS := Lib.hid hcs
      have FIN : Blk (wr.drew.setCells (w.heap.size + 1) 0 cs) (w.heap.size + 1) cs := by
        have h := D1.drew.sets cs 0 (by rw [hlen, fcells_len, zeros_len]; omega)
        rw [List.take_zero, List.nil_append, List.drop_eq_nil_of_le (by rw [hlen, fcells_len, zeros_len]; omega), List.append_nil] at h
        exact h
      have FB : Below w.heap.size w (wr.drew.setCells (w.heap.size + 1) 0 cs) := below_sets (by omega) cs 0 hbr.drew
      clear hcs
      cases hb : has x 8 with
      | true =>
        rw [hb] at HL
        have HBB := Lib.hid hb
        clear hb
        go_wp2_with fail
        refine HL.out.mono ?_
        rintro e w' ⟨rfl, rfl⟩
        go_wp2_with fail
        refine wp_region_any (by kernel_rfl) ?_
        refine wpAny_yield 0 (.int .u32 lb) rfl (by kernel_rfl) (by kernel_rfl) (by kernel_rfl) (fun _ _ _ h => h) (by rfl) (by intro _; simp [go_sem]) ?_
        simp only [Act.put, List.setIfInBounds_toArray, List.set_cons_zero, List.set_cons_succ]
        refine wpAny_yield 2 (.int .u32 lb) rfl (by kernel_rfl) (by kernel_rfl) (by kernel_rfl) (fun _ _ _ h => h) (by rfl) (by intro _; simp [go_sem]) ?_
        simp only [Act.put, List.setIfInBounds_toArray, List.set_cons_zero, List.set_cons_succ]
        refine wpAny_one 1 rfl (by kernel_rfl) (by rfl) ?_
        refine wp_load_mid 25 _ rfl (w.heap.size + 1 + 1) 0 rfl cs _ R2 hu rfl hi ?_
        simp only [Act.put, List.setIfInBounds_toArray, List.set_cons_zero, List.set_cons_succ]
        refine wpAny_one 3 rfl (by kernel_rfl) (by rfl) ?_
        refine wp_store_mid 25 _ _ rfl (w.heap.size + 1) 0 cs.toArray rfl rfl (by simpa [hlen] using T1) (by simpa using hi) (all_oneCell_toArray hone) ?_
        refine wpAny_done (by kernel_rfl) ?_ _
        clear hi hone hlen R2 T1
        go_wp2
        exact bodyPost_ret (v := .tuple #[.int .u32 lb, .agg cs.toArray]) (results_tmp_blk (p := 6) (q := 7) rfl _ _ (w.heap.size + 1) cs _ _ rfl rfl FIN hu rfl HI.out) rfl ⟨by rw [HCS.out, HRL.out, HBB.out]; rfl, FB⟩
      | false =>
        rw [hb] at HL
        have HBB := Lib.hid hb
        clear hb
        go_wp2_with fail
        refine HL.out.mono ?_
        rintro e w' ⟨rfl, rfl⟩
        go_wp2_with fail
        refine wp_region_any (by kernel_rfl) ?_
        refine wpAny_yield 0 (.int .u32 0) rfl (by kernel_rfl) (by kernel_rfl) (by kernel_rfl) (fun _ _ _ h => h) (by rfl) (by intro _; simp [go_sem]) ?_
        simp only [Act.put, List.setIfInBounds_toArray, List.set_cons_zero, List.set_cons_succ]
        refine wpAny_yield 2 (.int .u32 0) rfl (by kernel_rfl) (by kernel_rfl) (by kernel_rfl) (fun _ _ _ h => h) (by rfl) (by intro _; simp [go_sem]) ?_
        simp only [Act.put, List.setIfInBounds_toArray, List.set_cons_zero, List.set_cons_succ]
        refine wpAny_one 1 rfl (by kernel_rfl) (by rfl) ?_
        refine wp_load_mid 25 _ rfl (w.heap.size + 1 + 1) 0 rfl cs _ R2 hu rfl hi ?_
        simp only [Act.put, List.setIfInBounds_toArray, List.set_cons_zero, List.set_cons_succ]
        refine wpAny_one 3 rfl (by kernel_rfl) (by rfl) ?_
        refine wp_store_mid 25 _ _ rfl (w.heap.size + 1) 0 cs.toArray rfl rfl (by simpa [hlen] using T1) (by simpa using hi) (all_oneCell_toArray hone) ?_
        refine wpAny_done (by kernel_rfl) ?_ _
        clear hi hone hlen R2 T1
        go_wp2
        exact bodyPost_ret (v := .tuple #[.int .u32 0, .agg cs.toArray]) (results_tmp_blk (p := 6) (q := 7) rfl _ _ (w.heap.size + 1) cs _ _ rfl rfl FIN hu rfl HI.out) rfl ⟨by rw [HCS.out, HRL.out, HBB.out]; rfl, FB⟩
end Go.Proofs.Ytnhcjadkbogioaa

/- Cards: a patch is written to a card: what each returns. -/
namespace Go.Proofs.Ytnhcjadkbogioaa
set_option linter.unusedVariables false
open Go Go.RowKit BitM

/-- The cells of a card, of a patch. -/
def ccells (id ver lab : Int) (f : List V3) : List Value := [.int .i64 id, .int .i64 ver, .int .u32 lab] ++ fcells f
def pcells (m lab : Int) (f : List V3) : List Value := [.int .u32 m, .int .u32 lab] ++ fcells f
theorem pcells_len (m lab : Int) {f : List V3} (h : f.length = 8) : (pcells m lab f).length = 26 := by
  unfold pcells; rw [List.length_append, fcells_len, h]; rfl
theorem pcells_one (m lab : Int) (f : List V3) : ∀ u ∈ pcells m lab f, u.oneCell' = true := by
  intro u hu
  rcases List.mem_append.1 hu with h | h
  · simp at h; rcases h with rfl | rfl <;> rfl
  · exact fcells_one f u h
theorem Blk.card {w : World} {g : Nat} {id ver lab : Int} {f : List V3} (h : Blk w g (ccells id ver lab f)) :
    w.cell? ⟨g, 0, none⟩ = some (.int .i64 id) ∧ w.cell? ⟨g, 1, none⟩ = some (.int .i64 ver) ∧ w.cell? ⟨g, 2, none⟩ = some (.int .u32 lab) := ⟨h.cell rfl, h.cell rfl, h.cell rfl⟩
theorem Blk.patch {w : World} {g : Nat} {m lab : Int} {f : List V3} (h : Blk w g (pcells m lab f)) :
    w.cell? ⟨g, 0, none⟩ = some (.int .u32 m) ∧ w.cell? ⟨g, 1, none⟩ = some (.int .u32 lab) := ⟨h.cell rfl, h.cell rfl⟩
theorem Own.setOther {w : World} {base : Nat} {e : TypeId} {v : Value} {xs : List Value} (h : Own w base e v xs) {b : Nat} (hb : b < base) (j : Nat) (u : Value) : Own (w.setCell ⟨b, j, none⟩ u) base e v xs :=
  h.setsOther hb [u] j
/-- A whole block is laid into another one. -/
theorem Blk.whole {w : World} {g : Nat} {cs ds : List Value} (h : Blk w g cs) (hl : ds.length = cs.length) : Blk (w.setCells g 0 ds) g ds := by
  have h2 := h.sets ds 0 (by omega)
  rw [List.take_zero, List.nil_append, List.drop_eq_nil_of_le (by omega), List.append_nil] at h2
  exact h2
theorem info_patch : (Try.prog.info? 27).map (·.size) = some 26 := by kernel_rfl

end Go.Proofs.Ytnhcjadkbogioaa

/- When two values, fields, cards, patches are the same: what == gives. -/
namespace Go.Proofs.Ytnhcjadkbogioaa
set_option linter.unusedVariables false
open Go Go.RowKit BitM

theorem fieldsP : Try.prog.underlying 27 = some (.struct (Try.prog.fieldsOf 27)) := by kernel_rfl
theorem fcells_ext (f : List V3) (i : Nat) (h : i < f.length) : (fcells f).toArray.extract (i * 3) (i * 3 + 3) = (vcells f[i]).toArray := by
  rw [← fcells_drop f i h, Nat.mul_comm i 3]
  simp [List.extract_eq_take_drop]
theorem all_fields : ∀ (f g : List V3), f.length = g.length → ((List.range f.length).all fun i => decide (f.getD i zv = g.getD i zv)) = decide (f = g)
  | [], [], _ => rfl
  | x :: xs, y :: ys, h => by
    have ih := all_fields xs ys (by simpa using h)
    rw [List.length_cons, List.range_succ_eq_map, List.all_cons, List.all_map]
    simp only [List.getD_cons_zero, Function.comp_def, List.getD_cons_succ, ih]
    by_cases h1 : x = y <;> by_cases h2 : xs = ys <;> simp [h1, h2]
  | [], _ :: _, h => by simp at h
  | _ :: _, [], h => by simp at h
theorem eq_fields (d : Nat) (f g : List V3) (hf : f.length = 8) (hg : g.length = 8) (w : World) :
    (Op.equalIn (d + 3) 25 (.agg (fcells f).toArray) (.agg (fcells g).toArray)).run Try.prog w = .ok (decide (f = g)) w := by
  have hsz : ∀ w, (sizeOf 24).run Try.prog w = .ok 3 w := fun w => by kernel_rfl
  have hag : ∀ w, (isAgg 24).run Try.prog w = .ok true w := fun w => by kernel_rfl
  rw [← all_fields f g (hf.trans hg.symm), hf, List.range_eq_range', Op.equalIn]
  simp only [Sem.run_bind, run_underlying Try.underlying25, Result.andThen_ok, hsz, Std.Legacy.Range.forIn_eq_forIn_range', Std.Legacy.Range.size, Nat.sub_zero, Nat.add_sub_cancel, Nat.div_one]
  have hl : ∀ i ∈ List.range' 0 8 1, i < 8 := fun i hi => by simpa using (List.mem_range'_1.1 hi).2
  generalize List.range' 0 8 1 = l at hl ⊢
  induction l with
  | nil => simp
  | cons i l ih =>
    have hi : i < 8 := hl i (by simp)
    have px : (part 24 (fcells f).toArray (i * 3)).run Try.prog w = .ok (.agg (vcells (f.getD i zv)).toArray) w := by
      have h : i < f.length := by omega
      simp only [part, Sem.run_bind, hag, Result.andThen_ok, hsz, if_true, Sem.run_pure, fcells_ext f i h]
      simp [List.getD, h]
    have py : (part 24 (fcells g).toArray (i * 3)).run Try.prog w = .ok (.agg (vcells (g.getD i zv)).toArray) w := by
      have h : i < g.length := by omega
      simp only [part, Sem.run_bind, hag, Result.andThen_ok, hsz, if_true, Sem.run_pure, fcells_ext g i h]
      simp [List.getD, h]
    simp only [List.forIn_cons, Sem.run_bind, px, py, eq_val d, Result.andThen_ok, List.all_cons]
    cases hb : decide (f.getD i zv = g.getD i zv)
    · simp
    · simp only [Bool.not_true, Bool.false_eq_true, if_false, Sem.run_pure, Result.andThen_ok, Bool.true_and]
      exact ih fun j hj => hl j (by simp [hj])
theorem fcells_pre (pre : List Value) (f : List V3) (o : Nat) (ho : pre.length = o) (hf : f.length = 8) : (pre ++ fcells f).toArray.extract o (o + 24) = (fcells f).toArray := by
  subst ho
  have hl : (fcells f).length = 24 := by rw [fcells_len, hf]
  simp [List.extract_eq_take_drop, ← hl]
theorem eq_patch (d : Nat) (m lab m' lab' : Int) (f g : List V3) (hf : f.length = 8) (hg : g.length = 8) (w : World) :
    (Op.equalIn (d + 4) 27 (.agg (pcells m lab f).toArray) (.agg (pcells m' lab' g).toArray)).run Try.prog w = .ok (decide (m = m' ∧ lab = lab' ∧ f = g)) w := by
  have hsz : ∀ w, (sizeOf 25).run Try.prog w = .ok 24 w := fun w => by kernel_rfl
  have hag : ∀ w, (isAgg 25).run Try.prog w = .ok true w := fun w => by kernel_rfl
  rw [run_equalIn_agg w (d + 3) 27 _ _ fieldsP (by kernel_rfl)]
  have e : (Try.prog.fieldsOf 27).toList = [⟨"Mask", 22, 0, false, "", "", 0⟩, ⟨"Labels", 22, 1, false, "", "", 4⟩, ⟨"F", 25, 2, false, "", "", 8⟩] := by kernel_rfl
  rw [e]
  have px : ∀ (a b : Int) (h : List V3), h.length = 8 → (part 25 (pcells a b h).toArray 2).run Try.prog w = .ok (.agg (fcells h).toArray) w := fun a b h hh => by
    simp only [part, Sem.run_bind, hag, Result.andThen_ok, hsz, if_true, Sem.run_pure]
    unfold pcells
    rw [fcells_pre _ h 2 rfl hh]
  have p0 : ∀ (a b : Int) (h : List V3), (part 22 (pcells a b h).toArray 0).run Try.prog w = .ok (.int .u32 a) w := fun a b h => by simp [go_sem, part, isAgg, pcells]
  have p1 : ∀ (a b : Int) (h : List V3), (part 22 (pcells a b h).toArray 1).run Try.prog w = .ok (.int .u32 b) w := fun a b h => by simp [go_sem, part, isAgg, pcells]
  have ef := eq_fields d f g hf hg w
  have q1 : ∀ a b : Int, (Op.equalIn (d + 3) 22 (.int .u32 a) (.int .u32 b)).run Try.prog w = .ok (a == b) w := fun a b => run_equalIn_int w (d + 2) 22 .u32 .u32 a b Try.underlying22
  simp only [Op.eqFields, if_pos (show ("Mask" : String) ≠ "_" by decide), if_pos (show ("Labels" : String) ≠ "_" by decide), if_pos (show ("F" : String) ≠ "_" by decide)]
  simp only [Sem.run_bind, Sem.run_ite, Sem.run_pure, px _ _ f hf, px _ _ g hg, p0, p1, q1, ef, Result.andThen_ok]
  by_cases h1 : m = m' <;> by_cases h2 : lab = lab' <;> by_cases h4 : f = g <;> simp [h1, h2, h4]
end Go.Proofs.Ytnhcjadkbogioaa

/- Which patches may be, by the document; what is unlike in cards; what is within: what each returns. -/
namespace Go.Proofs.Ytnhcjadkbogioaa
set_option linter.unusedVariables false
open Go Go.RowKit BitM

section
variable {P : Program} {ops : Array Oper} {rest : List Oper} {op : Oper} {a : Act} {w : World} {Q : Exit → Act → World → Prop}
end

/-- Are the first k fields of a patch as they must be? -/
def fok (x : BitVec 32) (f : List V3) (k : Nat) : Bool := (List.range k).all fun i => vchk (f.getD i zv) && (decide ((f.getD i zv).1 = 0) || has x (i : Int))
theorem fok_succ (x : BitVec 32) (f : List V3) (k : Nat) : fok x f (k + 1) = (fok x f k && (vchk (f.getD k zv) && (decide ((f.getD k zv).1 = 0) || has x (k : Int)))) := by
  unfold fok
  rw [List.range_succ, List.all_append]
  simp
theorem fok_mono (x : BitVec 32) (f : List V3) {j k : Nat} (h : j ≤ k) (hf : fok x f j = false) : fok x f k = false := by
  induction k with
  | zero => obtain rfl : j = 0 := by omega
            exact hf
  | succ k ih =>
    by_cases e : j = k + 1
    · subst e; exact hf
    · rw [fok_succ, ih (by omega)]; rfl
/-- What is wrong with a patch. -/
def pchk (x : BitVec 32) (lab : Int) (f : List V3) : Int :=
  if 511 < x.toNat ∨ x.toNat = 0 then 11 else if 65536 ≤ lab ∨ (lab ≠ 0 ∧ has x 8 = false) then 1 else if fok x f 8 then 0 else 1

set_option maxRecDepth 100000 in
set_option maxHeartbeats 6400000 in
theorem rpcheck_any (x : BitVec 32) (lab : Int) (f : List V3) (w : World) (hf : f.length = 8) :
    Calls Try.prog 38 #[.agg (pcells (x.toNat : Int) lab f).toArray] w fun e w' => e = .returned (.int .i64 (pchk x lab f)) ∧ Below w.heap.size w w' := by
  have HF := Lib.hid hf
  clear hf
  have B0 := Blk.new w (pcells (x.toNat : Int) lab f) 27
  obtain ⟨pa, hpa⟩ : ∃ pa, pa = (pcells (x.toNat : Int) lab f).toArray := ⟨_, rfl⟩
  rw [← hpa] at B0 ⊢
  have hw0 := (Below.refl w.heap.size w).alloc (Nat.le_refl _) (.cells pa 27)
  have HB := Lib.hid hw0
  obtain ⟨p0, p1⟩ := B0.patch
  have HM := Lib.hid (rmcheck_any x (w.alloc (.cells pa 27)))
  obtain ⟨R, hR⟩ : ∃ R, R = pchk x lab f := ⟨_, rfl⟩
  rw [← hR]
  have HR := Lib.hid hR
  clear hR hw0 hpa
  by_cases h1 : x.toNat ≤ 511
  · rw [decide_eq_true h1] at HM
    by_cases h2 : x.toNat = 0
    · have b2 : ((x.toNat : Int) == 0) = true := by rw [h2]; rfl
      have hRR : R = 11 := by rw [HR.out]; unfold pchk; rw [if_pos (.inr h2)]
      have HRR := Lib.hid hRR
      clear hRR h2 h1
      go_enter Try.func38, Try.ntmps38
      go_wp2_with fail
      refine HM.out.mono ?_
      rintro e w' ⟨rfl, rfl⟩
      go_wp2_with fail
      go_ret
      exact ⟨by rw [HRR.out]; rfl, HB.out⟩
    · have b2 : ((x.toNat : Int) == 0) = false := by rw [beq_eq_false_iff_ne]; omega
      have hn : ¬ (511 < x.toNat ∨ x.toNat = 0) := by omega
      by_cases h3 : 65536 ≤ lab
      · have d3 : decide (65536 ≤ lab) = true := by simpa using h3
        have HRR : Hid (R = 1) := Lib.hid (by rw [HR.out]; unfold pchk; rw [if_neg hn, if_pos (.inl h3)])
        clear h1 h2 h3 hn
        go_enter Try.func38, Try.ntmps38
        go_wp2_with fail
        refine HM.out.mono ?_
        rintro e w' ⟨rfl, rfl⟩
        go_wp2_with fail
        go_ret
        exact ⟨by rw [HRR.out]; rfl, HB.out⟩
      · have d3 : decide (65536 ≤ lab) = false := by simpa using h3
        have HL := Lib.hid (rlabels_any x (w.alloc (.cells pa 27)))
        by_cases h4 : lab = 0
        · have b4 : (lab != 0) = false := by simpa using h4
          have hRR : R = if fok x f 8 then 0 else 1 := by rw [HR.out]; unfold pchk; rw [if_neg hn, if_neg (by omega)]
          have RES : fok x f 8 = false → R = 1 := fun h => by rw [hRR, h]; rfl
          have RES0 : fok x f 8 = true → R = 0 := fun h => by rw [hRR, h]; rfl
          have HRES := Lib.hid RES
          have HRES0 := Lib.hid RES0
          clear h1 h2 h3 h4 hn hRR RES RES0
          go_enter Try.func38, Try.ntmps38
          go_wp2_with fail
          refine HM.out.mono ?_
          rintro e w' ⟨rfl, rfl⟩
          go_wp2_with fail
          go_loopw [3] (fun i wr => ∃ k : Nat, k ≤ 8 ∧ i = .int .i64 k ∧ Blk wr w.heap.size (pcells (x.toNat : Int) lab f) ∧ Hid (fok x f k = true) ∧ Below w.heap.size w wr) (fun i _ => 8 - (intOf i).toNat)
          case atStart => exact ⟨0, by omega, rfl, B0, Lib.hid rfl, HB.out⟩
          case round =>
            obtain ⟨k, hk, rfl, D0, HK, hbr⟩ := hrel
            clear p0 p1 B0 HB
            by_cases hlt : k < 8
            · have hkf : k < f.length := by rw [HF.out]; exact hlt
              obtain ⟨l0, l1, l2⟩ := Blk.field (o := 2) D0 k rfl hkf
              obtain ⟨p0, p1⟩ := D0.patch
              have d8 : (k : Int) < 8 := by omega
              have HS := Lib.hid (fok_succ x f k)
              obtain ⟨⟨v0, v1, v2⟩, hv⟩ : ∃ v, v = f[k] := ⟨_, rfl⟩
              have hg : f.getD k zv = (v0, v1, v2) := by rw [hv]; simp [List.getD, hkf]
              have HG := Lib.hid hg
              rw [← hv] at l0 l1 l2
              simp only at l0 l1 l2
              have HC := Lib.hid (fun wx : World => rvcheck_any v0 v1 v2 wx)
              have HV := Lib.hid hv
              clear hv hg
              cases hc : vchk (v0, v1, v2) with
              | false =>
                rw [hc] at HC
                have HCC := Lib.hid hc
                clear hc
                go_wp2_with fail
                refine (HC.out _).mono ?_
                rintro e w1 ⟨rfl, hb⟩
                have hbw := hbr.trans (hb.mono hbr.size)
                go_wp2_with fail
                go_ret
                refine ⟨?_, hbw⟩
                have hfin : R = 1 := HRES.out (fok_mono x f (j := k + 1) (by omega) (by rw [HS.out, HG.out, HCC.out]; simp))
                rw [hfin]
                rfl
              | true =>
                rw [hc] at HC
                have HCC := Lib.hid hc
                clear hc
                by_cases hz : v0 = 0
                · have bz : (v0 != 0) = false := by simpa using hz
                  have HZ := Lib.hid hz
                  clear hz
                  go_wp2_with fail
                  refine (HC.out _).mono ?_
                  rintro e w1 ⟨rfl, hb⟩
                  have hbw := hbr.trans (hb.mono hbr.size)
                  have D1 := D0.later hb
                  obtain ⟨m0, m1, m2⟩ := Blk.field (o := 2) D1 k rfl hkf
                  rw [← HV.out] at m0
                  simp only at m0
                  clear m1 m2
                  clear D0 l0 l1 l2 p0 p1
                  go_wp2_with fail
                  go_roundw
                  case rel => exact ⟨k + 1, by omega, by go_num, D1, Lib.hid (by rw [HS.out, HK.out, HG.out, HCC.out]; simp [HZ.out]), hbw⟩
                  case measure => simp [intOf]; omega
                · have bz : (v0 != 0) = true := by simpa using hz
                  have HZ := Lib.hid hz
                  clear hz
                  cases hh : has x (k : Int) with
                  | true =>
                    have HHX := Lib.hid hh
                    have HX := Lib.hid (fun wx : World => rhas_any x (k : Int) wx)
                    rw [hh] at HX
                    clear hh
                    go_wp2_with fail
                    refine (HC.out _).mono ?_
                    rintro e w1 ⟨rfl, hb⟩
                    have hbw := hbr.trans (hb.mono hbr.size)
                    have D1 := D0.later hb
                    obtain ⟨m0, m1, m2⟩ := Blk.field (o := 2) D1 k rfl hkf
                    obtain ⟨r0, r1⟩ := D1.patch
                    rw [← HV.out] at m0
                    simp only at m0
                    clear m1 m2
                    clear D0 l0 l1 l2 p0 p1
                    go_wp2_with fail
                    refine (HX.out _).mono ?_
                    rintro e w2 ⟨rfl, rfl⟩
                    go_wp2_with fail
                    go_roundw
                    case rel => exact ⟨k + 1, by omega, by go_num, D1, Lib.hid (by rw [HS.out, HK.out, HG.out, HCC.out, HHX.out]; simp), hbw⟩
                    case measure => simp [intOf]; omega
                  | false =>
                    have HHX := Lib.hid hh
                    have HX := Lib.hid (fun wx : World => rhas_any x (k : Int) wx)
                    rw [hh] at HX
                    clear hh
                    go_wp2_with fail
                    refine (HC.out _).mono ?_
                    rintro e w1 ⟨rfl, hb⟩
                    have hbw := hbr.trans (hb.mono hbr.size)
                    have D1 := D0.later hb
                    obtain ⟨m0, m1, m2⟩ := Blk.field (o := 2) D1 k rfl hkf
                    obtain ⟨r0, r1⟩ := D1.patch
                    rw [← HV.out] at m0
                    simp only at m0
                    clear m1 m2
                    clear D0 l0 l1 l2 p0 p1
                    go_wp2_with fail
                    refine (HX.out _).mono ?_
                    rintro e w2 ⟨rfl, rfl⟩
                    go_wp2_with fail
                    go_ret
                    refine ⟨?_, hbw⟩
                    have hfin : R = 1 := HRES.out (fok_mono x f (j := k + 1) (by omega) (by rw [HS.out, HK.out, HG.out, HCC.out, HHX.out]; simp [HZ.out]))
                    rw [hfin]
                    rfl
            · obtain rfl : k = 8 := by omega
              go_wp2_with fail
              go_ret
              exact ⟨by rw [HRES0.out HK.out]; rfl, hbr⟩
        · have b4 : (lab != 0) = true := by simpa using h4
          cases h8 : has x 8 with
          | false =>
            rw [h8] at HL
            have HRR : Hid (R = 1) := Lib.hid (by rw [HR.out]; unfold pchk; rw [if_neg hn, if_pos (.inr ⟨h4, h8⟩)])
            clear h1 h2 h3 h4 hn h8
            go_enter Try.func38, Try.ntmps38
            go_wp2_with fail
            refine HM.out.mono ?_
            rintro e w' ⟨rfl, rfl⟩
            go_wp2_with fail
            refine HL.out.mono ?_
            rintro e w' ⟨rfl, rfl⟩
            go_wp2_with fail
            go_ret
            exact ⟨by rw [HRR.out]; rfl, HB.out⟩
          | true =>
            rw [h8] at HL
            have hRR : R = if fok x f 8 then 0 else 1 := by rw [HR.out]; unfold pchk; rw [if_neg hn, if_neg (by simp [h8]; omega)]
            have RES : fok x f 8 = false → R = 1 := fun h => by rw [hRR, h]; rfl
            have RES0 : fok x f 8 = true → R = 0 := fun h => by rw [hRR, h]; rfl
            have HRES := Lib.hid RES
            have HRES0 := Lib.hid RES0
            clear h1 h2 h3 h4 hn h8 hRR RES RES0
            go_enter Try.func38, Try.ntmps38
            go_wp2_with fail
            refine HM.out.mono ?_
            rintro e w' ⟨rfl, rfl⟩
            go_wp2_with fail
            refine HL.out.mono ?_
            rintro e w' ⟨rfl, rfl⟩
            go_wp2_with fail
            go_loopw [3] (fun i wr => ∃ k : Nat, k ≤ 8 ∧ i = .int .i64 k ∧ Blk wr w.heap.size (pcells (x.toNat : Int) lab f) ∧ Hid (fok x f k = true) ∧ Below w.heap.size w wr) (fun i _ => 8 - (intOf i).toNat)
            case atStart => exact ⟨0, by omega, rfl, B0, Lib.hid rfl, HB.out⟩
            case round =>
              obtain ⟨k, hk, rfl, D0, HK, hbr⟩ := hrel
              clear p0 p1 B0 HB
              by_cases hlt : k < 8
              · have hkf : k < f.length := by rw [HF.out]; exact hlt
                obtain ⟨l0, l1, l2⟩ := Blk.field (o := 2) D0 k rfl hkf
                obtain ⟨p0, p1⟩ := D0.patch
                have d8 : (k : Int) < 8 := by omega
                have HS := Lib.hid (fok_succ x f k)
                obtain ⟨⟨v0, v1, v2⟩, hv⟩ : ∃ v, v = f[k] := ⟨_, rfl⟩
                have hg : f.getD k zv = (v0, v1, v2) := by rw [hv]; simp [List.getD, hkf]
                have HG := Lib.hid hg
                rw [← hv] at l0 l1 l2
                simp only at l0 l1 l2
                have HC := Lib.hid (fun wx : World => rvcheck_any v0 v1 v2 wx)
                have HV := Lib.hid hv
                clear hv hg
                cases hc : vchk (v0, v1, v2) with
                | false =>
                  rw [hc] at HC
                  have HCC := Lib.hid hc
                  clear hc
                  go_wp2_with fail
                  refine (HC.out _).mono ?_
                  rintro e w1 ⟨rfl, hb⟩
                  have hbw := hbr.trans (hb.mono hbr.size)
                  go_wp2_with fail
                  go_ret
                  refine ⟨?_, hbw⟩
                  have hfin : R = 1 := HRES.out (fok_mono x f (j := k + 1) (by omega) (by rw [HS.out, HG.out, HCC.out]; simp))
                  rw [hfin]
                  rfl
                | true =>
                  rw [hc] at HC
                  have HCC := Lib.hid hc
                  clear hc
                  by_cases hz : v0 = 0
                  · have bz : (v0 != 0) = false := by simpa using hz
                    have HZ := Lib.hid hz
                    clear hz
                    go_wp2_with fail
                    refine (HC.out _).mono ?_
                    rintro e w1 ⟨rfl, hb⟩
                    have hbw := hbr.trans (hb.mono hbr.size)
                    have D1 := D0.later hb
                    obtain ⟨m0, m1, m2⟩ := Blk.field (o := 2) D1 k rfl hkf
                    rw [← HV.out] at m0
                    simp only at m0
                    clear m1 m2
                    clear D0 l0 l1 l2 p0 p1
                    go_wp2_with fail
                    go_roundw
                    case rel => exact ⟨k + 1, by omega, by go_num, D1, Lib.hid (by rw [HS.out, HK.out, HG.out, HCC.out]; simp [HZ.out]), hbw⟩
                    case measure => simp [intOf]; omega
                  · have bz : (v0 != 0) = true := by simpa using hz
                    have HZ := Lib.hid hz
                    clear hz
                    cases hh : has x (k : Int) with
                    | true =>
                      have HHX := Lib.hid hh
                      have HX := Lib.hid (fun wx : World => rhas_any x (k : Int) wx)
                      rw [hh] at HX
                      clear hh
                      go_wp2_with fail
                      refine (HC.out _).mono ?_
                      rintro e w1 ⟨rfl, hb⟩
                      have hbw := hbr.trans (hb.mono hbr.size)
                      have D1 := D0.later hb
                      obtain ⟨m0, m1, m2⟩ := Blk.field (o := 2) D1 k rfl hkf
                      obtain ⟨r0, r1⟩ := D1.patch
                      rw [← HV.out] at m0
                      simp only at m0
                      clear m1 m2
                      clear D0 l0 l1 l2 p0 p1
                      go_wp2_with fail
                      refine (HX.out _).mono ?_
                      rintro e w2 ⟨rfl, rfl⟩
                      go_wp2_with fail
                      go_roundw
                      case rel => exact ⟨k + 1, by omega, by go_num, D1, Lib.hid (by rw [HS.out, HK.out, HG.out, HCC.out, HHX.out]; simp), hbw⟩
                      case measure => simp [intOf]; omega
                    | false =>
                      have HHX := Lib.hid hh
                      have HX := Lib.hid (fun wx : World => rhas_any x (k : Int) wx)
                      rw [hh] at HX
                      clear hh
                      go_wp2_with fail
                      refine (HC.out _).mono ?_
                      rintro e w1 ⟨rfl, hb⟩
                      have hbw := hbr.trans (hb.mono hbr.size)
                      have D1 := D0.later hb
                      obtain ⟨m0, m1, m2⟩ := Blk.field (o := 2) D1 k rfl hkf
                      obtain ⟨r0, r1⟩ := D1.patch
                      rw [← HV.out] at m0
                      simp only at m0
                      clear m1 m2
                      clear D0 l0 l1 l2 p0 p1
                      go_wp2_with fail
                      refine (HX.out _).mono ?_
                      rintro e w2 ⟨rfl, rfl⟩
                      go_wp2_with fail
                      go_ret
                      refine ⟨?_, hbw⟩
                      have hfin : R = 1 := HRES.out (fok_mono x f (j := k + 1) (by omega) (by rw [HS.out, HK.out, HG.out, HCC.out, HHX.out]; simp [HZ.out]))
                      rw [hfin]
                      rfl
              · obtain rfl : k = 8 := by omega
                go_wp2_with fail
                go_ret
                exact ⟨by rw [HRES0.out HK.out]; rfl, hbr⟩
  · rw [decide_eq_false h1] at HM
    have HRR : Hid (R = 11) := Lib.hid (by rw [HR.out]; unfold pchk; rw [if_pos (.inl (by omega))])
    clear h1
    go_enter Try.func38, Try.ntmps38
    go_wp2_with fail
    refine HM.out.mono ?_
    rintro e w' ⟨rfl, rfl⟩
    go_wp2_with fail
    go_ret
    exact ⟨by rw [HRR.out]; rfl, HB.out⟩
end Go.Proofs.Ytnhcjadkbogioaa

/- Cards: what a mask shows of a card; a new card: what each returns. -/
namespace Go.Proofs.Ytnhcjadkbogioaa
set_option linter.unusedVariables false
open Go Go.RowKit BitM

theorem info_fields : (Try.prog.info? 25).map (·.size) = some 24 := by kernel_rfl
theorem Blk.fieldsP {w : World} {g : Nat} {m lab : Int} {f : List V3} (h : Blk w g (pcells m lab f)) : w.rangeAt g 2 (fcells f) := by
  refine h.range 2 _ ?_
  unfold pcells
  rw [List.drop_append_of_le_length (by simp), List.drop_eq_nil_of_le (by simp), List.nil_append, List.take_length]
theorem Blk.wholeC {w : World} {g : Nat} {cs : List Value} (h : Blk w g cs) : w.rangeAt g 0 cs := h.range 0 cs (by rw [List.drop_zero, List.take_length])
end Go.Proofs.Ytnhcjadkbogioaa

/- Cards and patches as they are read of bytes: a number above 0; a field: the program's. -/
namespace Go.Proofs.Ytnhcjadkbogioaa
set_option linter.unusedVariables false
open Go Go.RowKit OctM

/-- Block g, block c, and block g again are written; all else is new. -/
def Tri (g c : Nat) (w w' : World) : Prop := ∃ w1 w2, w.grownBy w1 (some g) ∧ w1.grownBy w2 (some c) ∧ w2.grownBy w' (some g)
section
variable {g c : Nat} {w w' : World}
theorem Tri.new {W0 : World} (t : Tri g c w w') (h : W0.grownBy w (some g)) (hc : W0.heap.size ≤ c) : W0.grownBy w' (some g) := by
  obtain ⟨w1, w2, t1, t2, t3⟩ := t
  exact (grown_new (h.trans t1) t2 hc).trans t3
theorem Own.other {base m : Nat} {e : TypeId} {v : Value} {xs : List Value} (h : Own w base e v xs) (hg : w.grownBy w' (some m)) (hm : m < base) : Own w' base e v xs := by
  refine h.kept hg ?_
  by_cases h0 : v.ownBlock = none
  · exact .inl h0
  · right
    intro he
    have := (h.lt _ he).1
    omega
theorem Tri.own {base : Nat} {e : TypeId} {v : Value} {xs : List Value} (t : Tri g c w w') (h : Own w base e v xs) (h1 : g < base) (h2 : c < base) : Own w' base e v xs := by
  obtain ⟨w1, w2, t1, t2, t3⟩ := t
  exact ((h.other t1 h1).other t2 h2).other t3 h1
theorem Tri.blk {b : Nat} {cs : List Value} (t : Tri g c w w') (h : Blk w b cs) (h1 : g ≠ b) (h2 : c ≠ b) : Blk w' b cs := by
  obtain ⟨w1, w2, t1, t2, t3⟩ := t
  exact ((h.kept t1 (by simpa using h1)).kept t2 (by simpa using h2)).kept t3 (by simpa using h1)
theorem Tri.size (t : Tri g c w w') : w.heap.size ≤ w'.heap.size := by
  obtain ⟨w1, w2, t1, t2, t3⟩ := t
  exact Nat.le_trans t1.size (Nat.le_trans t2.size t3.size)
end

end Go.Proofs.Ytnhcjadkbogioaa

/- A region that draws its order, whose calls make memory, and whose last operations (a store, an append) wait for all the others: the others walked once, in the order of the text. -/
namespace Go.Proofs.Ytnhcjadkbogioaa
open Go Go.RowKit

section
variable (P : Program) (ops : Array Oper) (md : Region.Mode) (G : Tmp → Option Rel) (w0 : World) (n : Nat) (L : Array Bool → Act → Prop)
end
section
variable {P : Program} {ops : Array Oper} {md : Region.Mode} {G : Tmp → Option Rel} {w0 : World} {n : Nat} {L : Array Bool → Act → Prop}

end

end Go.Proofs.Ytnhcjadkbogioaa
