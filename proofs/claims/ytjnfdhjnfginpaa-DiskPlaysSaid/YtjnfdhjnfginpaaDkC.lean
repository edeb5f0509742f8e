/- Disks: cells of sectors; a write that comes to its outcome: settle: what it returns. -/
import Derived.Test.YtjnfdhjnfginpaaDkB
import Derived.Test.YtjnfdhjnfginpaaTail
import Derived.Test.YtjnfdhjnfginpaaInMid
namespace Go.Proofs.Ytjnfdhjnfginpaa
set_option linter.unusedVariables false
set_option linter.unusedSimpArgs false
open Go Go.RowKit

theorem cons_len {α : Type} {n : Nat} {l : List α} (h : l.length = n + 1) : ∃ x l', l = x :: l' ∧ l'.length = n := by
  cases l with
  | nil => cases h
  | cons x l => exact ⟨x, l, rfl, by simpa using h⟩
set_option maxRecDepth 100000 in
theorem run_secb (b : B64) (w : World) : (Instr.build 63 #[(0, .agg (bvs b.1).toArray)]).run Try.prog w = .ok (.agg (scell (b, false)).toArray) w := by
  obtain ⟨l, h⟩ := b
  obtain ⟨c0, l0, rfl, h0⟩ := cons_len h
  obtain ⟨c1, l1, rfl, h1⟩ := cons_len h0
  obtain ⟨c2, l2, rfl, h2⟩ := cons_len h1
  obtain ⟨c3, l3, rfl, h3⟩ := cons_len h2
  obtain ⟨c4, l4, rfl, h4⟩ := cons_len h3
  obtain ⟨c5, l5, rfl, h5⟩ := cons_len h4
  obtain ⟨c6, l6, rfl, h6⟩ := cons_len h5
  obtain ⟨c7, l7, rfl, h7⟩ := cons_len h6
  obtain ⟨c8, l8, rfl, h8⟩ := cons_len h7
  obtain ⟨c9, l9, rfl, h9⟩ := cons_len h8
  obtain ⟨c10, l10, rfl, h10⟩ := cons_len h9
  obtain ⟨c11, l11, rfl, h11⟩ := cons_len h10
  obtain ⟨c12, l12, rfl, h12⟩ := cons_len h11
  obtain ⟨c13, l13, rfl, h13⟩ := cons_len h12
  obtain ⟨c14, l14, rfl, h14⟩ := cons_len h13
  obtain ⟨c15, l15, rfl, h15⟩ := cons_len h14
  obtain ⟨c16, l16, rfl, h16⟩ := cons_len h15
  obtain ⟨c17, l17, rfl, h17⟩ := cons_len h16
  obtain ⟨c18, l18, rfl, h18⟩ := cons_len h17
  obtain ⟨c19, l19, rfl, h19⟩ := cons_len h18
  obtain ⟨c20, l20, rfl, h20⟩ := cons_len h19
  obtain ⟨c21, l21, rfl, h21⟩ := cons_len h20
  obtain ⟨c22, l22, rfl, h22⟩ := cons_len h21
  obtain ⟨c23, l23, rfl, h23⟩ := cons_len h22
  obtain ⟨c24, l24, rfl, h24⟩ := cons_len h23
  obtain ⟨c25, l25, rfl, h25⟩ := cons_len h24
  obtain ⟨c26, l26, rfl, h26⟩ := cons_len h25
  obtain ⟨c27, l27, rfl, h27⟩ := cons_len h26
  obtain ⟨c28, l28, rfl, h28⟩ := cons_len h27
  obtain ⟨c29, l29, rfl, h29⟩ := cons_len h28
  obtain ⟨c30, l30, rfl, h30⟩ := cons_len h29
  obtain ⟨c31, l31, rfl, h31⟩ := cons_len h30
  obtain ⟨c32, l32, rfl, h32⟩ := cons_len h31
  obtain ⟨c33, l33, rfl, h33⟩ := cons_len h32
  obtain ⟨c34, l34, rfl, h34⟩ := cons_len h33
  obtain ⟨c35, l35, rfl, h35⟩ := cons_len h34
  obtain ⟨c36, l36, rfl, h36⟩ := cons_len h35
  obtain ⟨c37, l37, rfl, h37⟩ := cons_len h36
  obtain ⟨c38, l38, rfl, h38⟩ := cons_len h37
  obtain ⟨c39, l39, rfl, h39⟩ := cons_len h38
  obtain ⟨c40, l40, rfl, h40⟩ := cons_len h39
  obtain ⟨c41, l41, rfl, h41⟩ := cons_len h40
  obtain ⟨c42, l42, rfl, h42⟩ := cons_len h41
  obtain ⟨c43, l43, rfl, h43⟩ := cons_len h42
  obtain ⟨c44, l44, rfl, h44⟩ := cons_len h43
  obtain ⟨c45, l45, rfl, h45⟩ := cons_len h44
  obtain ⟨c46, l46, rfl, h46⟩ := cons_len h45
  obtain ⟨c47, l47, rfl, h47⟩ := cons_len h46
  obtain ⟨c48, l48, rfl, h48⟩ := cons_len h47
  obtain ⟨c49, l49, rfl, h49⟩ := cons_len h48
  obtain ⟨c50, l50, rfl, h50⟩ := cons_len h49
  obtain ⟨c51, l51, rfl, h51⟩ := cons_len h50
  obtain ⟨c52, l52, rfl, h52⟩ := cons_len h51
  obtain ⟨c53, l53, rfl, h53⟩ := cons_len h52
  obtain ⟨c54, l54, rfl, h54⟩ := cons_len h53
  obtain ⟨c55, l55, rfl, h55⟩ := cons_len h54
  obtain ⟨c56, l56, rfl, h56⟩ := cons_len h55
  obtain ⟨c57, l57, rfl, h57⟩ := cons_len h56
  obtain ⟨c58, l58, rfl, h58⟩ := cons_len h57
  obtain ⟨c59, l59, rfl, h59⟩ := cons_len h58
  obtain ⟨c60, l60, rfl, h60⟩ := cons_len h59
  obtain ⟨c61, l61, rfl, h61⟩ := cons_len h60
  obtain ⟨c62, l62, rfl, h62⟩ := cons_len h61
  obtain ⟨c63, l63, rfl, h63⟩ := cons_len h62
  obtain rfl := List.eq_nil_of_length_eq_zero h63
  kernel_rfl
set_option maxRecDepth 100000 in
theorem run_wr1 (a : Int) (b : B64) (w : World) : (Instr.buildSlice 51 1 #[(0, .agg (wcell (a, b)).toArray)]).run Try.prog w = .ok (.slice (some ⟨w.heap.size, 0, none⟩) 1 1) (w.alloc (.cells (wcell (a, b)).toArray 59)) := by
  obtain ⟨l, h⟩ := b
  obtain ⟨c0, l0, rfl, h0⟩ := cons_len h
  obtain ⟨c1, l1, rfl, h1⟩ := cons_len h0
  obtain ⟨c2, l2, rfl, h2⟩ := cons_len h1
  obtain ⟨c3, l3, rfl, h3⟩ := cons_len h2
  obtain ⟨c4, l4, rfl, h4⟩ := cons_len h3
  obtain ⟨c5, l5, rfl, h5⟩ := cons_len h4
  obtain ⟨c6, l6, rfl, h6⟩ := cons_len h5
  obtain ⟨c7, l7, rfl, h7⟩ := cons_len h6
  obtain ⟨c8, l8, rfl, h8⟩ := cons_len h7
  obtain ⟨c9, l9, rfl, h9⟩ := cons_len h8
  obtain ⟨c10, l10, rfl, h10⟩ := cons_len h9
  obtain ⟨c11, l11, rfl, h11⟩ := cons_len h10
  obtain ⟨c12, l12, rfl, h12⟩ := cons_len h11
  obtain ⟨c13, l13, rfl, h13⟩ := cons_len h12
  obtain ⟨c14, l14, rfl, h14⟩ := cons_len h13
  obtain ⟨c15, l15, rfl, h15⟩ := cons_len h14
  obtain ⟨c16, l16, rfl, h16⟩ := cons_len h15
  obtain ⟨c17, l17, rfl, h17⟩ := cons_len h16
  obtain ⟨c18, l18, rfl, h18⟩ := cons_len h17
  obtain ⟨c19, l19, rfl, h19⟩ := cons_len h18
  obtain ⟨c20, l20, rfl, h20⟩ := cons_len h19
  obtain ⟨c21, l21, rfl, h21⟩ := cons_len h20
  obtain ⟨c22, l22, rfl, h22⟩ := cons_len h21
  obtain ⟨c23, l23, rfl, h23⟩ := cons_len h22
  obtain ⟨c24, l24, rfl, h24⟩ := cons_len h23
  obtain ⟨c25, l25, rfl, h25⟩ := cons_len h24
  obtain ⟨c26, l26, rfl, h26⟩ := cons_len h25
  obtain ⟨c27, l27, rfl, h27⟩ := cons_len h26
  obtain ⟨c28, l28, rfl, h28⟩ := cons_len h27
  obtain ⟨c29, l29, rfl, h29⟩ := cons_len h28
  obtain ⟨c30, l30, rfl, h30⟩ := cons_len h29
  obtain ⟨c31, l31, rfl, h31⟩ := cons_len h30
  obtain ⟨c32, l32, rfl, h32⟩ := cons_len h31
  obtain ⟨c33, l33, rfl, h33⟩ := cons_len h32
  obtain ⟨c34, l34, rfl, h34⟩ := cons_len h33
  obtain ⟨c35, l35, rfl, h35⟩ := cons_len h34
  obtain ⟨c36, l36, rfl, h36⟩ := cons_len h35
  obtain ⟨c37, l37, rfl, h37⟩ := cons_len h36
  obtain ⟨c38, l38, rfl, h38⟩ := cons_len h37
  obtain ⟨c39, l39, rfl, h39⟩ := cons_len h38
  obtain ⟨c40, l40, rfl, h40⟩ := cons_len h39
  obtain ⟨c41, l41, rfl, h41⟩ := cons_len h40
  obtain ⟨c42, l42, rfl, h42⟩ := cons_len h41
  obtain ⟨c43, l43, rfl, h43⟩ := cons_len h42
  obtain ⟨c44, l44, rfl, h44⟩ := cons_len h43
  obtain ⟨c45, l45, rfl, h45⟩ := cons_len h44
  obtain ⟨c46, l46, rfl, h46⟩ := cons_len h45
  obtain ⟨c47, l47, rfl, h47⟩ := cons_len h46
  obtain ⟨c48, l48, rfl, h48⟩ := cons_len h47
  obtain ⟨c49, l49, rfl, h49⟩ := cons_len h48
  obtain ⟨c50, l50, rfl, h50⟩ := cons_len h49
  obtain ⟨c51, l51, rfl, h51⟩ := cons_len h50
  obtain ⟨c52, l52, rfl, h52⟩ := cons_len h51
  obtain ⟨c53, l53, rfl, h53⟩ := cons_len h52
  obtain ⟨c54, l54, rfl, h54⟩ := cons_len h53
  obtain ⟨c55, l55, rfl, h55⟩ := cons_len h54
  obtain ⟨c56, l56, rfl, h56⟩ := cons_len h55
  obtain ⟨c57, l57, rfl, h57⟩ := cons_len h56
  obtain ⟨c58, l58, rfl, h58⟩ := cons_len h57
  obtain ⟨c59, l59, rfl, h59⟩ := cons_len h58
  obtain ⟨c60, l60, rfl, h60⟩ := cons_len h59
  obtain ⟨c61, l61, rfl, h61⟩ := cons_len h60
  obtain ⟨c62, l62, rfl, h62⟩ := cons_len h61
  obtain ⟨c63, l63, rfl, h63⟩ := cons_len h62
  obtain rfl := List.eq_nil_of_length_eq_zero h63
  kernel_rfl
theorem run_wrb (a : Int) (w : World) : (Instr.build 59 #[(0, .int .i64 a)]).run Try.prog w = .ok (.agg (wcell (a, z64)).toArray) w := by kernel_rfl
theorem zero_sec (w : World) : (Instr.alloc 63 true (.tuple #[])).run Try.prog w = .ok (.pointer (some ⟨w.heap.size, 0, none⟩)) (w.alloc (.cells (scell (z64, false)).toArray 63)) := by kernel_rfl
theorem zero_wr (w : World) : (Instr.alloc 59 true (.tuple #[])).run Try.prog w = .ok (.pointer (some ⟨w.heap.size, 0, none⟩)) (w.alloc (.cells (wcell (0, z64)).toArray 59)) := by kernel_rfl
theorem info_bytes : (Try.prog.info? 57).map (·.size) = some 64 := by kernel_rfl
theorem info_sec : (Try.prog.info? 63).map (·.size) = some 65 := by kernel_rfl
theorem info_wri : (Try.prog.info? 59).map (·.size) = some 65 := by kernel_rfl
section
variable {P : Program} {ops : Array Oper} {rest : List Oper} {o : Oper} {a : Act} {w : World} {Q : Exit → Act → World → Prop}
/-- A struct, built of one part, by its run. -/
theorem exec_build (t : TypeId) (x : Operand) (ho : o.op = .build t #[(0, x)]) (v r : Value) (hx : a.eval x = v) (hr : (Instr.build t #[(0, v)]).run P w = .ok r w) : (execOp a.eval o).run P w = .ok (.value r) w := by
  unfold execOp
  simp only [ho, List.map_toArray, List.map_cons, List.map_nil, hx, Sem.run_bind, hr, Result.andThen_ok, Sem.run_pure]
/-- A new variable, its cells by its run. -/
theorem wpList_new (hgd : o.guard = none) (t : TypeId) (ho : o.op = .alloc t) (zs : List Value) (hr : (Instr.alloc t true (.tuple #[])).run P w = .ok (.pointer (some ⟨w.heap.size, 0, none⟩)) (w.alloc (.cells zs.toArray t)))
    (h : wpList P ops Q rest (a.put o.dst (.pointer (some ⟨w.heap.size, 0, none⟩))) (w.alloc (.cells zs.toArray t))) : wpList P ops Q (o :: rest) a w :=
  wpList_plain hgd fun _ hK => by
    unfold Oper.wp execOp
    simp only [ho, Sem.run_bind, hr, Result.andThen_ok, Sem.run_pure]
    exact hK _ _ h
end
theorem scell_set64 (c : Sc) (x : Bool) : (scell c).set 64 (.bool x) = scell (c.1, x) := by
  unfold scell
  rw [List.set_append_right _ _ (by rw [bvs_length, c.1.2]; exact Nat.le_refl _), bvs_length, c.1.2]
  rfl
theorem scs_set64 (x : Bool) : ∀ (l : List Sc) (k : Nat), k < l.length → (scs l).set (k * 65 + 64) (.bool x) = scs (l.set k ((l.getD k (z64, false)).1, x))
  | [], k, h => by simp at h
  | c :: l, 0, _ => by
    show (scell c ++ scs l).set (0 * 65 + 64) _ = scell (c.1, x) ++ scs l
    rw [List.set_append_left _ _ (by rw [scell_len]; omega), Nat.zero_mul, Nat.zero_add, scell_set64]
  | c :: l, k + 1, h => by
    have ih := scs_set64 x l k (by simpa using h)
    show (scell c ++ scs l).set ((k + 1) * 65 + 64) _ = scell c ++ scs (l.set k ((l.getD k (z64, false)).1, x))
    rw [List.set_append_right _ _ (by rw [scell_len]; omega), scell_len, show (k + 1) * 65 + 64 - 65 = k * 65 + 64 by omega, ih]
theorem DkAt.setBad {w : World} {L g b : Nat} {r : Option Nat} {D : Dk} (h : DkAt w L g b r D) (k : Nat) (hk : k < D.s.length) : DkAt (w.setCell ⟨b, k * 65 + 64, none⟩ (.bool true)) L g b r { D with s := D.s.set k ((D.s.getD k (z64, false)).1, true) } := by
  obtain ⟨⟨A, c, B, hr, e⟩, h2, h3, h4, h5, h6, h7⟩ := h
  refine ⟨⟨A, c, ?_, row_apartD hr (by rw [← e]; exact h5) [.bool true] (k * 65 + 64), e⟩, ?_, h3, h4, h5, h6, h7⟩
  · have := B.setOther (b := b) (k * 65 + 64) (.bool true) (fun e => h3 e.symm)
    simpa using this
  · have := h2.set (k * 65 + 64) (.bool true)
    rw [scs_set64 true D.s k hk] at this
    exact this
end Go.Proofs.Ytjnfdhjnfginpaa
