/- Cards: what is unlike in two cards: what it returns. -/
import Derived.Test.YticdpfjajkfheaaCardE
import Derived.Test.YticdpfjajkfheaaCardF
import Derived.Test.YticdpfjajkfheaaCardG
namespace Go.Proofs.Yticdpfjajkfheaa
set_option linter.unusedVariables false
open Go Go.RowKit BitM

section
variable {P : Program} {ops : Array Oper} {rest : List Oper} {op : Oper} {a : Act} {w : World} {Q : Exit → Act → World → Prop}
/-- An operation by its run. -/
theorem wpList_exec (hw : Region.wanted op (yielded ops a.tmps) = true) (v : Value) (he : (execOp a.eval op).run P w = .ok (.value v) w)
    (h : wpList P ops Q rest (a.put op.dst v) w) : wpList P ops Q (op :: rest) a w :=
  wpList_step fun K hK => by
    rw [if_pos hw]
    unfold Oper.wp
    rw [he]
    exact hK _ _ h
theorem exec_eql (t u : TypeId) (x y : Operand) (ho : op.op = .binOp .eql t x y u) (xs ys : Array Value) (hx : a.eval x = .agg xs) (hy : a.eval y = .agg ys)
    (hg : P.eqGuardType P.depth t = false) (b : Bool) (hr : (Op.equalIn 10000 t (.agg xs) (.agg ys)).run P w = .ok b w) : (execOp a.eval op).run P w = .ok (.value (.bool b)) w := by
  unfold execOp
  simp only [ho, hx, hy, Sem.run_bind, run_eqGuard_agg w _ _ _ _ _ _ hg, run_eql_struct, hr, Result.andThen_ok, Sem.run_pure]
theorem exec_neq (t u : TypeId) (x y : Operand) (ho : op.op = .binOp .neq t x y u) (xs ys : Array Value) (hx : a.eval x = .agg xs) (hy : a.eval y = .agg ys)
    (hg : P.eqGuardType P.depth t = false) (b : Bool) (hr : (Op.equalIn 10000 t (.agg xs) (.agg ys)).run P w = .ok b w) : (execOp a.eval op).run P w = .ok (.value (.bool (!b))) w := by
  unfold execOp
  simp only [ho, hx, hy, Sem.run_bind, run_eqGuard_agg w _ _ _ _ _ _ hg, run_neq_struct, hr, Result.andThen_ok, Sem.run_pure]
end

theorem Own.onward {w w' : World} {base : Nat} {e : TypeId} {v : Value} {xs : List Value} (h : Own w base e v xs) (hb : Below w.heap.size w w') : Own w' base e v xs := by
  refine ⟨h.1, h.2.imp id ?_⟩
  rintro ⟨g, cap, cur, h1, h2, h3, h4⟩
  exact ⟨g, cap, cur, h1, h2, (hb.block g (Array.getElem?_eq_some_iff.1 h3).1).trans h3, h4⟩

/-- Which of the first k fields are unlike. -/
def unl (f g : List V3) (k : Nat) : List Int := ((List.range k).filter fun i => decide (f.getD i zv ≠ g.getD i zv)).map fun i : Nat => (i : Int)
theorem unl_succ (f g : List V3) (k : Nat) : unl f g (k + 1) = unl f g k ++ if f.getD k zv ≠ g.getD k zv then [(k : Int)] else [] := by
  unfold unl
  rw [List.range_succ, List.filter_append, List.map_append]
  by_cases h : f.getD k zv = g.getD k zv
  · rw [List.filter_cons_of_neg (by rw [decide_eq_false (fun hn => hn h)]; exact Bool.false_ne_true), if_neg (fun hn => hn h)]; rfl
  · rw [List.filter_cons_of_pos (by rw [decide_eq_true h]), if_pos h]; rfl
theorem unl_len (f g : List V3) (k : Nat) : (unl f g k).length ≤ k := by
  unfold unl
  rw [List.length_map]
  exact Nat.le_trans (List.length_filter_le _ _) (by simp)
theorem mem_unl (f g : List V3) (k : Nat) (n : Int) : n ∈ unl f g k ↔ ∃ i : Nat, i < k ∧ n = (i : Int) ∧ f.getD i zv ≠ g.getD i zv := by
  unfold unl
  simp only [List.mem_map, List.mem_filter, List.mem_range, decide_eq_true_eq]
  constructor
  · rintro ⟨i, ⟨h1, h2⟩, rfl⟩; exact ⟨i, h1, rfl, h2⟩
  · rintro ⟨i, h1, rfl, h2⟩; exact ⟨i, ⟨h1, h2⟩, rfl⟩
/-- The mask of what is unlike. -/
def dmask (lab : Int) (f : List V3) (lab' : Int) (g : List V3) : BitVec 32 := mkm (decide (lab ≠ lab')) (unl f g 8)
theorem dmask_same (lab : Int) (f : List V3) : dmask lab f lab f = 0#32 := by
  have h : unl f f 8 = [] := by
    apply List.eq_nil_iff_forall_not_mem.2
    intro n hn
    obtain ⟨i, _, _, h⟩ := (mem_unl f f 8 n).1 hn
    exact h rfl
  unfold dmask mkm
  rw [h]
  simp [ofl]

theorem range3 {w : World} {g o : Nat} {v : V3} (h : w.cell? ⟨g, o, none⟩ = some (.int .i64 v.1) ∧ w.cell? ⟨g, o + 1, none⟩ = some (.int .i64 v.2.1) ∧ w.cell? ⟨g, o + 2, none⟩ = some (.string v.2.2)) : w.rangeAt g o (vcells v) := fun j u hj => by
  unfold vcells at hj
  match j with
  | 0 => simp at hj; subst hj; exact h.1
  | 1 => simp at hj; subst hj; exact h.2.1
  | 2 => simp at hj; subst hj; exact h.2.2
  | j + 3 => simp at hj
theorem info_val : (Try.prog.info? 24).map (·.size) = some 3 := by kernel_rfl
theorem guard_val : Try.prog.eqGuardType Try.prog.depth 24 = false := by kernel_rfl
theorem guard_card : Try.prog.eqGuardType Try.prog.depth 27 = false := by kernel_rfl

set_option maxRecDepth 100000 in
set_option maxHeartbeats 3200000 in
theorem diff_any (id ver lab id' ver' lab' : Int) (f g : List V3) (w : World) (hf : f.length = 8) (hg : g.length = 8) :
    Calls Try.prog 34 #[.agg (ccells id ver lab f).toArray, .agg (ccells id' ver' lab' g).toArray] w fun e w' =>
      e = .returned (.int .u32 ((dmask lab f lab' g).toNat : Int)) ∧ Below w.heap.size w w' := by
  have HEQ := Lib.hid (fun wx : World => eq_card 9996 id ver lab id' ver' lab' f g hf hg wx)
  obtain ⟨R, hR⟩ : ∃ R, R = dmask lab f lab' g := ⟨_, rfl⟩
  rw [← hR]
  have HR := Lib.hid hR
  have HL0 := Lib.hid (ccells_len id ver lab hf)
  have HL1 := Lib.hid (ccells_len id' ver' lab' hg)
  have HF := Lib.hid hf
  have HG := Lib.hid hg
  have B0 := Blk.new w (ccells id ver lab f) 27
  obtain ⟨ca, hca⟩ : ∃ ca, ca = (ccells id ver lab f).toArray := ⟨_, rfl⟩
  rw [← hca] at B0 ⊢
  have B1 := Blk.new (w.alloc (.cells ca 27)) (ccells id' ver' lab' g) 27
  obtain ⟨cb, hcb⟩ : ∃ cb, cb = (ccells id' ver' lab' g).toArray := ⟨_, rfl⟩
  rw [← hcb] at B1 ⊢
  have hw0 := ((Below.refl w.heap.size w).alloc (Nat.le_refl _) (.cells ca 27)).alloc (by simp) (.cells cb 27)
  replace B0 := B0.alloc (.cells cb 27)
  have hs1 : (w.alloc (.cells ca 27)).heap.size = w.heap.size + 1 := by simp
  have hsz : ((w.alloc (.cells ca 27)).alloc (.cells cb 27)).heap.size = w.heap.size + 2 := by simp
  rw [hs1] at B1
  generalize hW : (w.alloc (.cells ca 27)).alloc (.cells cb 27) = W at *
  have HW := Lib.hid hW
  have HB := Lib.hid hw0
  have HSZ := Lib.hid hsz
  clear hR hca hcb hs1 hsz hW hw0 hf hg
  have R0 := B0.wholeC
  have R1 := B1.wholeC
  have hu := Try.underlying27
  rw [← HW.out] at R0 R1
  cases hb : decide (id = id' ∧ ver = ver' ∧ lab = lab' ∧ f = g) with
  | true =>
    have HRR : Hid ((R.toNat : Int) = 0) := Lib.hid (by
      obtain ⟨_, _, rfl, rfl⟩ := of_decide_eq_true hb
      rw [HR.out, dmask_same]; rfl)
    rw [hb] at HEQ
    clear hb
    go_enter Try.func34, Try.ntmps34
    go_wp2_with (first
      | (refine wpList_load_mid rfl 27 (.tmp 2) rfl w.heap.size 0 rfl (ccells id ver lab f) _ R0 hu rfl (by rw [HL0.out]; exact info_card) ?_)
      | (refine wpList_load_mid rfl 27 (.tmp 3) rfl (w.heap.size + 1) 0 rfl (ccells id' ver' lab' g) _ R1 hu rfl (by rw [HL1.out]; exact info_card) ?_)
      | (refine wpList_exec (by rfl) (.bool true) (exec_eql 27 _ (.tmp 7) (.tmp 8) rfl _ _ rfl rfl guard_card true (HEQ.out _)) ?_))
    go_ret
    rw [HRR.out, HW.out]
    exact ⟨rfl, HB.out⟩
  | false =>
    rw [hb] at HEQ
    clear hb
    go_enter Try.func34, Try.ntmps34
    go_wp2_with (first
      | (refine wpList_load_mid rfl 27 (.tmp 2) rfl w.heap.size 0 rfl (ccells id ver lab f) _ R0 hu rfl (by rw [HL0.out]; exact info_card) ?_)
      | (refine wpList_load_mid rfl 27 (.tmp 3) rfl (w.heap.size + 1) 0 rfl (ccells id' ver' lab' g) _ R1 hu rfl (by rw [HL1.out]; exact info_card) ?_)
      | (refine wpList_exec (by rfl) (.bool false) (exec_eql 27 _ (.tmp 7) (.tmp 8) rfl _ _ rfl rfl guard_card false (HEQ.out _)) ?_))
    rw [HW.out]
    have HU := Lib.hid hu
    clear R0 R1 HEQ HL0 HL1 HW hu
    have own0 := Own.nil_ W (w.heap.size + 2) 3
    obtain ⟨i0, hi, hz0, hz1, hz2⟩ := info_parts info_int
    go_loopw [10, 5] (fun i s wr => ∃ (k : Nat) (A : Option Addr) (c : Nat) (n : Nat), k ≤ 8 ∧ i = .int .i64 k ∧ s = .slice A n c ∧ Hid ((unl f g k).length = n) ∧ Own wr (w.heap.size + 2) 3 (.slice A n c) (ivs (unl f g k)) ∧ Blk wr w.heap.size (ccells id ver lab f) ∧ Blk wr (w.heap.size + 1) (ccells id' ver' lab' g) ∧ Below w.heap.size w wr ∧ Hid (w.heap.size + 2 ≤ wr.heap.size)) (fun i _ _ => 8 - (intOf i).toNat)
    case atStart => exact ⟨0, none, 0, 0, by omega, rfl, rfl, Lib.hid rfl, own0, B0, B1, HB.out, Lib.hid (by rw [HSZ.out]; omega)⟩
    case round =>
      obtain ⟨k, A, c, n, hk, rfl, rfl, HN, hown, D0, D1, hbr, HSZ2⟩ := hrel
      clear B0 B1 HB HSZ
      by_cases hlt : k < 8
      · have d8 : (k : Int) < 8 := by omega
        have hkf : k < f.length := by rw [HF.out]; exact hlt
        have hkg : k < g.length := by rw [HG.out]; exact hlt
        have HS := Lib.hid (unl_succ f g k)
        obtain ⟨u, hu⟩ : ∃ u, u = f[k] := ⟨_, rfl⟩
        obtain ⟨v, hv⟩ : ∃ v, v = g[k] := ⟨_, rfl⟩
        have e1 : f.getD k zv = u := by rw [hu]; simp [List.getD, hkf]
        have e2 : g.getD k zv = v := by rw [hv]; simp [List.getD, hkg]
        rw [e1, e2] at HS
        have HA := Lib.hid (fun (w1 : World) (hl : Le wr w1) => range3 (v := u) (by rw [hu]; exact Blk.field (o := 3) (D0.later hl) k rfl hkf))
        have HBB := Lib.hid (fun (w1 : World) (hl : Le wr w1) => range3 (v := v) (by rw [hv]; exact Blk.field (o := 3) (D1.later hl) k rfl hkg))
        have hv24 := Try.underlying24
        clear hu hv e1 e2 hkf hkg
        cases huv : decide (u = v) with
        | true =>
          have HUV := Lib.hid huv
          have hS : unl f g (k + 1) = unl f g k := by rw [HS.out, if_neg (fun hn => hn (of_decide_eq_true huv)), List.append_nil]
          have HSS := Lib.hid hS
          clear huv hS
          go_wp2_with fail
          refine wp_region_steady [] 34 (by kernel_rfl) (by kernel_rfl) (by kernel_rfl) (by rfl) ?_
          repeat (refine wpG_quiet (by rfl) (by rfl) (by rfl) (fun K hK => ?_); go_big_quiet_op; refine hK _ ?_; clear hK K)
          refine wpG_run (by rfl) (by rfl) (.agg (vcells u).toArray) (fun w1 hl => exec_load 24 (.tmp 15) rfl w.heap.size (3 + k * 3) rfl (vcells u) _ (HA.out w1 hl.1) hv24 rfl info_val) ?_
          simp only [Act.put, List.setIfInBounds_toArray, List.set_cons_zero, List.set_cons_succ]
          repeat (refine wpG_quiet (by rfl) (by rfl) (by rfl) (fun K hK => ?_); go_big_quiet_op; refine hK _ ?_; clear hK K)
          refine wpG_run (by rfl) (by rfl) (.agg (vcells v).toArray) (fun w1 hl => exec_load 24 (.tmp 19) rfl (w.heap.size + 1) (3 + k * 3) rfl (vcells v) _ (HBB.out w1 hl.1) hv24 rfl info_val) ?_
          simp only [Act.put, List.setIfInBounds_toArray, List.set_cons_zero, List.set_cons_succ]
          refine wpG_run (by rfl) (by rfl) (.bool (!true)) (fun w1 hl => exec_neq 24 _ (.tmp 16) (.tmp 20) rfl _ _ rfl rfl guard_val true (by rw [← HUV.out]; exact eq_val 9998 u v w1)) ?_
          simp only [Act.put, List.setIfInBounds_toArray, List.set_cons_zero, List.set_cons_succ]
          refine wpG_nil fun w1 hl _ => ?_
          have hb1 := hbr.trans (hl.mono hbr.size)
          have E0 := D0.later hl
          have E1 := D1.later hl
          have own1 := hown.onward hl
          go_wp2_with fail
          go_roundw
          case rel => exact ⟨k + 1, A, c, n, by omega, by go_num, rfl, by rw [HSS.out]; exact HN, by rw [HSS.out]; exact own1, E0, E1, hb1, Lib.hid (Nat.le_trans HSZ2.out hl.size)⟩
          case measure => simp [intOf]; omega
        | false =>
          have HUV := Lib.hid huv
          have hS : unl f g (k + 1) = unl f g k ++ [(k : Int)] := by rw [HS.out, if_pos (of_decide_eq_false huv)]
          have HSS := Lib.hid hS
          clear huv hS
          go_wp2_with fail
          refine wp_region_steady [] 34 (by kernel_rfl) (by kernel_rfl) (by kernel_rfl) (by rfl) ?_
          repeat (refine wpG_quiet (by rfl) (by rfl) (by rfl) (fun K hK => ?_); go_big_quiet_op; refine hK _ ?_; clear hK K)
          refine wpG_run (by rfl) (by rfl) (.agg (vcells u).toArray) (fun w1 hl => exec_load 24 (.tmp 15) rfl w.heap.size (3 + k * 3) rfl (vcells u) _ (HA.out w1 hl.1) hv24 rfl info_val) ?_
          simp only [Act.put, List.setIfInBounds_toArray, List.set_cons_zero, List.set_cons_succ]
          repeat (refine wpG_quiet (by rfl) (by rfl) (by rfl) (fun K hK => ?_); go_big_quiet_op; refine hK _ ?_; clear hK K)
          refine wpG_run (by rfl) (by rfl) (.agg (vcells v).toArray) (fun w1 hl => exec_load 24 (.tmp 19) rfl (w.heap.size + 1) (3 + k * 3) rfl (vcells v) _ (HBB.out w1 hl.1) hv24 rfl info_val) ?_
          simp only [Act.put, List.setIfInBounds_toArray, List.set_cons_zero, List.set_cons_succ]
          refine wpG_run (by rfl) (by rfl) (.bool (!false)) (fun w1 hl => exec_neq 24 _ (.tmp 16) (.tmp 20) rfl _ _ rfl rfl guard_val false (by rw [← HUV.out]; exact eq_val 9998 u v w1)) ?_
          simp only [Act.put, List.setIfInBounds_toArray, List.set_cons_zero, List.set_cons_succ]
          refine wpG_nil fun w1 hl _ => ?_
          have hb1 := hbr.trans (hl.mono hbr.size)
          have E0 := D0.later hl
          have E1 := D1.later hl
          have own1 := hown.onward hl
          have hsz1 : w.heap.size + 2 ≤ w1.heap.size := Nat.le_trans HSZ2.out hl.size
          have hn8 : n ≤ 8 := by rw [← HN.out]; exact Nat.le_trans (unl_len f g k) hk
          clear hbr D0 D1 hown hl HA HBB hv24
          go_wp2_with (first
            | (at_builtin
               refine wpList_app _ rfl (.tmp 22) (.tmp 24) _ rfl (w.heap.size + 2) 3 i0 _ 8 Try.underlying40 hi hz0 hz1 hz2 rfl (.slice A n c) (ivs (unl f g k)) n rfl (by rw [ivs_length, HN.out]) (own1.alloc _) (w1.heap.size + 1) (some ⟨w1.heap.size, 0, none⟩) 1 (ivs [(k : Int)]) 1 rfl rfl (sees_lit w1 _ 3 (0, 0) _ rfl) (ivs_one _) (by simp [maxLen]; omega) (by omega) (by simp; omega) ?_
               intro A8 c8 w8 hown8 hb8 hg8 hat8)
            | fail)
          have hsz8 : w.heap.size + 2 ≤ w8.heap.size := Nat.le_trans (by simp; omega) hb8.size
          have F0 := (E0.alloc _).below hb8 (by omega)
          have F1 := (E1.alloc _).below hb8 (by omega)
          have hb9 := (hb1.alloc (by omega) _).trans (hb8.mono (by omega))
          rw [← ivs_append, ← HSS.out] at hown8
          go_roundw
          case rel => exact ⟨k + 1, A8, c8, n + 1, by omega, by go_num, rfl, Lib.hid (by rw [HSS.out, List.length_append, HN.out]; rfl), hown8, F0, F1, hb9, Lib.hid hsz8⟩
          case measure => simp [intOf]; omega
      · obtain rfl : k = 8 := by omega
        obtain ⟨c0, c1, c2⟩ := D0.card
        obtain ⟨e0, e1, e2⟩ := D1.card
        have hn8 : n ≤ 8 := by rw [← HN.out]; exact unl_len f g 8
        have HM := Lib.hid (make_any (decide (lab ≠ lab')) A n c (unl f g 8) wr _ HN.out hown.sees (by omega))
        rw [show mkm (decide (lab ≠ lab')) (unl f g 8) = R from HR.out.symm] at HM
        clear hown D0 D1
        cases hll : decide (lab ≠ lab') with
        | true =>
          have bl : (lab != lab') = true := by simpa using hll
          rw [hll] at HM
          clear hll
          go_wp2_with fail
          refine HM.out.mono ?_
          rintro e w' ⟨rfl, rfl⟩
          go_wp2_with fail
          go_ret
          exact ⟨rfl, hbr⟩
        | false =>
          have bl : (lab != lab') = false := by simpa using hll
          rw [hll] at HM
          clear hll
          go_wp2_with fail
          refine HM.out.mono ?_
          rintro e w' ⟨rfl, rfl⟩
          go_wp2_with fail
          go_ret
          exact ⟨rfl, hbr⟩
end Go.Proofs.Yticdpfjajkfheaa
