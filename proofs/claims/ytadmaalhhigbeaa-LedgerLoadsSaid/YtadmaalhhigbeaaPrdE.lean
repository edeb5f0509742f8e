/- Nodes from the end on: slices.Backward over nodes. -/
import Derived.Test.YtadmaalhhigbeaaPrdD
import Derived.Test.YtadmaalhhigbeaaTold
import Derived.Test.YtadmaalhhigbeaaInMid
namespace Go.Proofs.Ytadmaalhhigbeaa
set_option linter.unusedVariables false
set_option linter.unusedSimpArgs false
open Go Go.RowKit Go.Shelf
attribute [local go_sem] Oper.semAt_some

def zn : Nd := (0, 0, zv)
/-- The last m places of n, from the end on. -/
def backs (n m : Nat) : List Nat := (List.range m).map fun j => n - 1 - j
theorem backs_succ (n m : Nat) : backs n (m + 1) = backs n m ++ [n - 1 - m] := by unfold backs; rw [List.range_succ, List.map_append]; rfl
theorem backs_len (n m : Nat) : (backs n m).length = m := by simp [backs]
/-- What a round keeps of the iterator's: the nodes, and its own cell. -/
def Keep2 (n₀ Bn : Nat) (X Y : World) : Prop := Below n₀ X Y ∧ Y.cell? ⟨Bn, 0, none⟩ = X.cell? ⟨Bn, 0, none⟩
theorem Keep2.trans {n₀ Bn : Nat} {X Y Z : World} (h : Keep2 n₀ Bn X Y) (k : Keep2 n₀ Bn Y Z) : Keep2 n₀ Bn X Z := ⟨h.1.trans k.1, k.2.trans h.2⟩

set_option maxRecDepth 100000 in
set_option maxHeartbeats 2000000 in
theorem back1_in (m0 : Nat) (hn : 1 ≤ m0) (lp Bn n₀ : Nat) (A : Option Addr) (n c : Nat) (l : List Nd) (J Jx : List Nat → World → Prop) (hl : l.length = n) (hm : n ≤ 65536)
    (hY : ∀ pre y W, (pre = backs n pre.length ∧ y + pre.length + 1 = n) → J pre W → pre.length < n → YieldAt Fence.wide (m0 - 1) Try.prog lp #[.int .i64 (y : Int), .agg (ncells (l.getD y zn)).toArray] W fun e W' =>
      (e = .returned (.bool true) ∧ J (pre ++ [y]) W' ∧ Keep2 n₀ Bn W W') ∨ (e = .returned (.bool false) ∧ Jx (pre ++ [y]) W'))
    (W : World) (hBn : W.cell? ⟨Bn, 0, none⟩ = some (.slice A n c)) (hs : Sees W n₀ A (ncs l)) (h0 : J [] W) :
    CallsIn Fence.wide m0 Try.prog 102 #[.func (.yield lp) #[] #[], .pointer (some ⟨Bn, 0, none⟩)] W fun e W' => (∃ v, e = .returned v) ∧
      ((∃ ys, ys = backs n n ∧ J ys W') ∨ (∃ pre, True ∧ Jx pre W')) := by
  have hu := Try.underlying71
  refine callsIn_of_wp Try.func102 rfl trivial ?_ rfl
  simp only [Try.ntmps102, List.size_toArray, List.length_cons, List.length_nil, Nat.reduceAdd, Nat.reduceSub, Array.replicate_succ, Array.replicate_zero, List.push_toArray, List.append_toArray, List.nil_append, List.cons_append]
  have HL := Lib.hid hl
  clear hl
  gi_wp2
  gi_loopw [3] (fun i wr => ∃ r m : Nat, Hid (r + m = n) ∧ r ≤ n ∧ i = .int .i64 ((r : Int) - 1) ∧ J (backs n m) wr ∧ wr.cell? ⟨Bn, 0, none⟩ = some (.slice A n c) ∧ Sees wr n₀ A (ncs l))
    (fun i wr => (intOf i + 1).toNat)
  case atStart => exact ⟨n, 0, Lib.hid rfl, Nat.le_refl _, by go_num, h0, hBn, hs⟩
  case round =>
    obtain ⟨r, m, HR, hrn, rfl, hJ, hc, hsr⟩ := hrel
    cases r with
    | zero =>
      have e0 : (((0 : Nat) : Int) - 1) = -1 := rfl
      have HJ := Lib.hid (show J (backs n n) wr from by rw [show n = m by have := HR.out; omega] at hJ ⊢; exact hJ)
      rw [e0]
      clear hJ hsr
      gi_wp2
      go_end0
      exact ⟨⟨_, rfl⟩, .inl ⟨_, rfl, HJ.out⟩⟩
    | succ k =>
      have e0 : (((k + 1 : Nat) : Int) - 1) = (k : Int) := by omega
      rw [e0]
      have hkn : k < n := by omega
      have hkl : k < l.length := by rw [HL.out]; exact hkn
      have d1 : decide ((0 : Int) ≤ (k : Int)) = true := by simp
      obtain ⟨b, o, rfl, hb, _, _, hrg⟩ := sees_node hsr k hkl
      have hge : l.getD k zn = l[k] := by simp [hkl]
      obtain ⟨nc, hnc⟩ : ∃ nc, nc = ncells l[k] := ⟨_, rfl⟩
      have HSZ := Lib.hid (show nc.length = 5 by rw [hnc]; rfl)
      rw [← hnc] at hrg
      have HBS := Lib.hid (show backs n (m + 1) = backs n m ++ [k] by rw [backs_succ]; congr 2; have := HR.out; omega)
      obtain ⟨fn, tmps, assign, body, hy, hR⟩ := hY (backs n m) k wr ⟨by rw [backs_len], by rw [backs_len]; have := HR.out; omega⟩ hJ (by rw [backs_len]; have := HR.out; omega)
      rw [hge, ← hnc] at hy
      clear hge hnc hJ hs h0
      gi_wp2_with (first
        | (refine wpListIn_load rfl 71 (.tmp 15) rfl b (o + k * 5) rfl nc _ hrg hu rfl (by rw [HSZ.out]; exact info_node) ?_)
        | fail)
      refine hR.mono ?_
      rintro e W3 (⟨rfl, hJ3, hk3⟩ | ⟨rfl, hJx3⟩)
      · have hc3 := hk3.2.trans hc
        have hs3 := hsr.below hk3.1
        gi_wp2
        go_roundw
        case rel => exact ⟨k, m + 1, Lib.hid (by have := HR.out; omega), by omega, by go_num, by rw [HBS.out]; exact hJ3, hc3, hs3⟩
        case measure => simp [intOf]
      · gi_wp2
        refine bodyPost_ret (results_none rfl _ _ _) rfl ?_
        exact ⟨⟨_, rfl⟩, .inr ⟨_, trivial, hJx3⟩⟩

theorem back_any (A : Option Addr) (n c : Nat) (w : World) : Calls Try.prog 91 #[.slice A n c] w fun e w' =>
    e = .returned (.func (.func 102) #[] #[.pointer (some ⟨w.heap.size, 0, none⟩)]) ∧ w' = w.alloc (.cells #[.slice A n c] 23) := by
  go_enter Try.func91, Try.ntmps91
  go_wp2
  go_ret
  exact ⟨rfl, rfl⟩

theorem back_stops (m0 : Nat) (hn : 1 ≤ m0) (Bn n₀ : Nat) (A : Option Addr) (n c : Nat) (l : List Nd) (w : World) (hl : l.length = n) (hm : n ≤ 65536) (hBn : Bn < w.heap.size) (h0 : n₀ ≤ w.heap.size) (hc : w.cell? ⟨Bn, 0, none⟩ = some (.slice A n c)) (hs : Sees w n₀ A (ncs l)) :
    SeqStopsQ Fence.wide m0 Try.prog 102 #[.pointer (some ⟨Bn, 0, none⟩)] (fun y : Nat => #[Value.int .i64 (y : Int), .agg (ncells (l.getD y zn)).toArray]) (Keep2 n₀ Bn)
      (fun pre y => pre = backs n pre.length ∧ y + pre.length + 1 = n) (fun ys => ys = backs n n) (fun _ => True) n w :=
  fun lp J Jx W hW _ _ hY h => back1_in m0 hn lp Bn n₀ A n c l J Jx hl hm hY W ((hW.cell (p := ⟨Bn, 0, none⟩) hBn).trans hc) (hs.below (hW.mono h0)) h
end Go.Proofs.Ytadmaalhhigbeaa
