/- Lists of nodes: when two are alike, when lists of them are, and what Join returns. -/
import Derived.Test.YtadmaalhhigbeaaPrdK
import Derived.Test.YtadmaalhhigbeaaLoadG
namespace Go.Proofs.Ytadmaalhhigbeaa
set_option linter.unusedVariables false
set_option linter.unusedSimpArgs false
open Go Go.RowKit

theorem guard_node : Try.prog.eqGuardType Try.prog.depth 71 = false := by kernel_rfl
theorem fieldsN : Try.prog.underlying 71 = some (.struct (Try.prog.fieldsOf 71)) := by kernel_rfl
set_option maxRecDepth 100000 in
theorem eq_node (d : Nat) (a b : Nd) (w : World) : (Op.equalIn (d + 4) 71 (.agg (ncells a).toArray) (.agg (ncells b).toArray)).run Try.prog w = .ok (decide (a = b)) w := by
  obtain ⟨op, m, v⟩ := a
  obtain ⟨op', m', v'⟩ := b
  have hsz : ∀ w, (sizeOf 69).run Try.prog w = .ok 3 w := fun w => by kernel_rfl
  have hag : ∀ w, (isAgg 69).run Try.prog w = .ok true w := fun w => by kernel_rfl
  rw [run_equalIn_agg w (d + 3) 71 _ _ fieldsN (by kernel_rfl)]
  have e : (Try.prog.fieldsOf 71).toList = [⟨"Op", 3, 0, false, "", "", 0⟩, ⟨"N", 3, 1, false, "", "", 8⟩, ⟨"V", 69, 2, false, "", "", 16⟩] := by kernel_rfl
  rw [e]
  have px : ∀ (a b : Int) (h : V3), (part 69 (ncells (a, b, h)).toArray 2).run Try.prog w = .ok (.agg (vcells h).toArray) w := fun a b h => by
    simp only [part, Sem.run_bind, hag, Result.andThen_ok, hsz, if_true, Sem.run_pure]
    rfl
  have p0 : ∀ (a b : Int) (h : V3), (part 3 (ncells (a, b, h)).toArray 0).run Try.prog w = .ok (.int .i64 a) w := fun a b h => by simp [go_sem, part, isAgg, ncells]
  have p1 : ∀ (a b : Int) (h : V3), (part 3 (ncells (a, b, h)).toArray 1).run Try.prog w = .ok (.int .i64 b) w := fun a b h => by simp [go_sem, part, isAgg, ncells]
  have ef : (Op.equalIn (d + 3) 69 (.agg (vcells v).toArray) (.agg (vcells v').toArray)).run Try.prog w = .ok (decide (v = v')) w := eq_val (d + 1) v v' w
  have q0 : ∀ a b : Int, (Op.equalIn (d + 3) 3 (.int .i64 a) (.int .i64 b)).run Try.prog w = .ok (a == b) w := fun a b => run_equalIn_int w (d + 2) 3 .i64 .i64 a b Try.underlying3
  simp only [Op.eqFields, if_pos (show ("Op" : String) ≠ "_" by decide), if_pos (show ("N" : String) ≠ "_" by decide), if_pos (show ("V" : String) ≠ "_" by decide)]
  simp only [Sem.run_bind, Sem.run_ite, Sem.run_pure, px, p0, p1, q0, ef, Result.andThen_ok]
  by_cases h1 : op = op' <;> by_cases h2 : m = m' <;> by_cases h3 : v = v' <;> simp [h1, h2, h3]

theorem range_sees {w : World} {B b o k : Nat} {cs : List Value} (h : w.rangeAt b (o + k) cs) {w' : World} (hl : Below B w w') (hb : b < B) : w'.rangeAt b (o + k) cs := fun j v hj => (hl.cell (p := ⟨b, o + k + j, none⟩) hb).trans (h j v hj)

set_option maxRecDepth 100000 in
set_option maxHeartbeats 3200000 in
theorem rsame_len (A : Option Addr) (n c : Nat) (l : List Nd) (A' : Option Addr) (c' : Nat) (m : List Nd) (w : World) (hn : l.length = n) (hn' : m.length = n) (hs : Sees w w.heap.size A (ncs l)) (hs' : Sees w w.heap.size A' (ncs m)) (hm : n ≤ 65536) :
    Calls Try.prog 47 #[.slice A n c, .slice A' n c'] w fun e w' => e = .returned (.bool (decide (l = m))) ∧ Below w.heap.size w w' := by
  have HN := Lib.hid hn
  have HN' := Lib.hid hn'
  have hu := Try.underlying71
  obtain ⟨R, hR⟩ : ∃ R, R = decide (l = m) := ⟨_, rfl⟩
  have HR := Lib.hid hR
  rw [← hR]
  clear hn hn' hR
  have hbe : ((n : Int) != (n : Int)) = false := by simp
  go_enter Try.func47, Try.ntmps47
  go_wp2_with fail
  go_loopw [5] (fun i wr => ∃ k : Nat, k ≤ n ∧ i = .int .i64 k ∧ Hid (l.take k = m.take k) ∧ Below w.heap.size w wr) (fun i _ => n - (intOf i).toNat)
  case atStart => exact ⟨0, Nat.zero_le _, rfl, Lib.hid (by simp), Below.refl _ _⟩
  case round =>
    obtain ⟨k, hk, rfl, HP, hbr⟩ := hrel
    by_cases hlt : k < n
    · have d1 : decide ((k : Int) < (n : Int)) = true := by simp; omega
      have hkl : k < l.length := by rw [HN.out]; exact hlt
      have hkm : k < m.length := by rw [HN'.out]; exact hlt
      obtain ⟨b, o, rfl, hb, hc1, hc2, hrg⟩ := sees_node ((hs.below hbr).more hbr.size) k hkl
      obtain ⟨b', o', rfl, hb', hc1', hc2', hrg'⟩ := sees_node ((hs'.below hbr).more hbr.size) k hkm
      clear hc1 hc2 hc1' hc2'
      have HA := Lib.hid (fun (w1 : World) (hl : Le wr w1) => range_sees hrg hl hb)
      have HB := Lib.hid (fun (w1 : World) (hl : Le wr w1) => range_sees hrg' hl hb')
      have HQ := Lib.hid (fun w1 : World => eq_node 9996 l[k] m[k] w1)
      obtain ⟨x, hx⟩ : ∃ x, x = l[k] := ⟨_, rfl⟩
      obtain ⟨y, hy⟩ : ∃ y, y = m[k] := ⟨_, rfl⟩
      rw [← hx] at HA HQ
      rw [← hy] at HB HQ
      have HX := Lib.hid hx
      have HY := Lib.hid hy
      have HSX : Hid ((ncells x).length = 5) := Lib.hid rfl
      have HSY : Hid ((ncells y).length = 5) := Lib.hid rfl
      clear hx hy hrg hrg'
      cases hxy : decide (x = y) with
      | true =>
        rw [hxy] at HQ
        have HE := Lib.hid (of_decide_eq_true hxy)
        clear hxy
        go_wp2_with fail
        refine wp_region_steady [] 26 (by kernel_rfl) (by kernel_rfl) (by kernel_rfl) (by rfl) ?_
        iterate 3 (refine wpG_quiet (by rfl) (by rfl) (by rfl) (fun K hK => ?_); go_big_quiet_op; refine hK _ ?_; clear hK K)
        refine wpG_run (by rfl) (by rfl) (.agg (ncells x).toArray) (fun w1 hl => exec_load 71 (.tmp 19) rfl b (o + k * 5) rfl (ncells x) _ (HA.out w1 hl.1) hu rfl (by rw [HSX.out]; exact info_node)) ?_
        simp only [Act.put, List.setIfInBounds_toArray, List.set_cons_zero, List.set_cons_succ]
        iterate 3 (refine wpG_quiet (by rfl) (by rfl) (by rfl) (fun K hK => ?_); go_big_quiet_op; refine hK _ ?_; clear hK K)
        refine wpG_run (by rfl) (by rfl) (.agg (ncells y).toArray) (fun w1 hl => exec_load 71 (.tmp 23) rfl b' (o' + k * 5) rfl (ncells y) _ (HB.out w1 hl.1) hu rfl (by rw [HSY.out]; exact info_node)) ?_
        simp only [Act.put, List.setIfInBounds_toArray, List.set_cons_zero, List.set_cons_succ]
        refine wpG_run (by rfl) (by rfl) (.bool (!true)) (fun w1 hl => exec_neq 71 _ (.tmp 20) (.tmp 24) rfl _ _ rfl rfl guard_node true (HQ.out w1)) ?_
        simp only [Act.put, List.setIfInBounds_toArray, List.set_cons_zero, List.set_cons_succ]
        refine wpG_nil fun w1 hl _ => ?_
        have hb1 := hbr.trans (hl.mono hbr.size)
        clear hbr
        go_wp2_with fail
        go_roundw
        case rel => exact ⟨k + 1, by omega, by go_num, Lib.hid (by rw [List.take_succ_eq_append_getElem hkl, List.take_succ_eq_append_getElem hkm, HP.out, ← HX.out, ← HY.out, HE.out]), hb1⟩
        case measure => simp [intOf]; omega
      | false =>
        rw [hxy] at HQ
        have HRR : Hid (R = false) := Lib.hid (by
          rw [HR.out]
          refine decide_eq_false fun e => of_decide_eq_false hxy ?_
          rw [HX.out, HY.out]
          subst e
          rfl)
        clear hxy
        go_wp2_with fail
        refine wp_region_steady [] 26 (by kernel_rfl) (by kernel_rfl) (by kernel_rfl) (by rfl) ?_
        iterate 3 (refine wpG_quiet (by rfl) (by rfl) (by rfl) (fun K hK => ?_); go_big_quiet_op; refine hK _ ?_; clear hK K)
        refine wpG_run (by rfl) (by rfl) (.agg (ncells x).toArray) (fun w1 hl => exec_load 71 (.tmp 19) rfl b (o + k * 5) rfl (ncells x) _ (HA.out w1 hl.1) hu rfl (by rw [HSX.out]; exact info_node)) ?_
        simp only [Act.put, List.setIfInBounds_toArray, List.set_cons_zero, List.set_cons_succ]
        iterate 3 (refine wpG_quiet (by rfl) (by rfl) (by rfl) (fun K hK => ?_); go_big_quiet_op; refine hK _ ?_; clear hK K)
        refine wpG_run (by rfl) (by rfl) (.agg (ncells y).toArray) (fun w1 hl => exec_load 71 (.tmp 23) rfl b' (o' + k * 5) rfl (ncells y) _ (HB.out w1 hl.1) hu rfl (by rw [HSY.out]; exact info_node)) ?_
        simp only [Act.put, List.setIfInBounds_toArray, List.set_cons_zero, List.set_cons_succ]
        refine wpG_run (by rfl) (by rfl) (.bool (!false)) (fun w1 hl => exec_neq 71 _ (.tmp 20) (.tmp 24) rfl _ _ rfl rfl guard_node false (HQ.out w1)) ?_
        simp only [Act.put, List.setIfInBounds_toArray, List.set_cons_zero, List.set_cons_succ]
        refine wpG_nil fun w1 hl _ => ?_
        have hb1 := hbr.trans (hl.mono hbr.size)
        clear hbr
        go_wp2_with fail
        go_ret
        exact ⟨by rw [HRR.out]; rfl, hb1⟩
    · obtain rfl : k = n := by omega
      have HRR : Hid (R = true) := Lib.hid (by
        have := HP.out
        rw [List.take_of_length_le (by rw [HN.out]; exact Nat.le_refl _), List.take_of_length_le (by rw [HN'.out]; exact Nat.le_refl _)] at this
        rw [HR.out]
        exact decide_eq_true this)
      go_wp2_with fail
      go_ret
      exact ⟨by rw [HRR.out]; rfl, hbr⟩
theorem rsame_any (A : Option Addr) (n c : Nat) (l : List Nd) (A' : Option Addr) (n' c' : Nat) (m : List Nd) (w : World) (hn : l.length = n) (hn' : m.length = n') (hs : Sees w w.heap.size A (ncs l)) (hs' : Sees w w.heap.size A' (ncs m)) (hm : n ≤ 65536) :
    Calls Try.prog 47 #[.slice A n c, .slice A' n' c'] w fun e w' => e = .returned (.bool (decide (l = m))) ∧ Below w.heap.size w w' := by
  by_cases h : n = n'
  · subst h
    exact rsame_len A n c l A' c' m w hn hn' hs hs' hm
  · have hbe : ((n : Int) != (n' : Int)) = true := by rw [bne_iff_ne]; omega
    have HNE : Hid (decide (l = m) = false) := Lib.hid (decide_eq_false (by rintro rfl; omega))
    clear h hn hn' hs hs'
    go_enter Try.func47, Try.ntmps47
    go_wp2_with fail
    go_ret
    exact ⟨by rw [HNE.out]; rfl, Below.refl _ _⟩
end Go.Proofs.Ytadmaalhhigbeaa
