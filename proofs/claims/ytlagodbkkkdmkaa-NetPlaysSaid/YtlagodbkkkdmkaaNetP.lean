/- The document's Send: what it returns. -/
import Derived.Test.YtlagodbkkkdmkaaNetN
import Derived.Test.YtlagodbkkkdmkaaRowN
namespace Go.Proofs.Ytlagodbkkkdmkaa
set_option linter.unusedVariables false
set_option linter.unusedSimpArgs false
open Go Go.RowKit Go.MuLone

theorem info_rpkd : (Try.prog.info? 56).map (fun i => (i.zero, i.size, i.bytes)) = some (some (.agg #[.int .i64 0, .int .i64 0, .string ⟨#[]⟩]), 3, 32) := by kernel_rfl
theorem info_rpk : (Try.prog.info? 56).map (·.size) = some 3 := by kernel_rfl
def relPk (v : V3) : Rel where
  rel x w := ∃ g, x = .slice (some ⟨g, 0, none⟩) 1 1 ∧ Blk w g (vcells v)
  mono := fun x w w' h ⟨g, e, hr⟩ => ⟨g, e, hr.later h⟩
  real := fun w ⟨g, e, _⟩ => by cases e
theorem run_rpk0 (w : World) : (Instr.buildSlice 54 0 #[]).run Try.prog w = .ok (.slice (some ⟨w.heap.size, 0, none⟩) 0 0) (w.alloc (.cells #[] 56)) := by kernel_rfl
theorem run_rpk1 (a b : Int) (c : ByteArray) (w : World) : (Instr.buildSlice 54 1 #[(0, .agg #[.int .i64 a, .int .i64 b, .string c])]).run Try.prog w = .ok (.slice (some ⟨w.heap.size, 0, none⟩) 1 1) (w.alloc (.cells #[.int .i64 a, .int .i64 b, .string c] 56)) := by kernel_rfl
theorem rpk1_gives {a : Act} {op : Oper} (x : Operand) (v0 v1 : Int) (v2 : ByteArray) (ho : op.op = .buildSlice 54 1 #[(0, x)]) (hx : a.eval x = .agg #[.int .i64 v0, .int .i64 v1, .string v2]) (w : World) : gives Try.prog op a (relPk (v0, v1, v2)).rel w := by
  unfold gives execOp
  simp only [ho, List.map_toArray, List.map_cons, List.map_nil, hx, Sem.run_bind, run_rpk1, Result.andThen_ok, Sem.run_pure]
  exact ⟨(Below.refl _ _).alloc (Nat.le_refl _) _, _, rfl, Blk.new w (vcells (v0, v1, v2)) _⟩

set_option maxRecDepth 100000 in
set_option maxHeartbeats 3200000 in
theorem rsend_more (w : World) (ad : Addr) (c n : Nat) (l : List V3) (v0 v1 : Int) (v2 : ByteArray) (hn : l.length = n) (hs : Sees w w.heap.size (some ad) (fcells l)) (hl : n < 40) :
    Calls Try.prog 27 #[.slice (some ad) n c, .agg #[.int .i64 v0, .int .i64 v1, .string v2]] w fun e w' => ∃ A' c', e = .returned (.tuple #[.slice A' (n + 1) c', .bool true]) ∧ w'.ownsRow w.heap.size 56 3 (.slice A' (n + 1) c') (n + 1) (fcells (l ++ [(v0, v1, v2)])) ∧ Below w.heap.size w w' := by
  obtain ⟨i0, hi0, hz0, hz1, hz2⟩ := info_parts info_rpkd
  have hu := Try.underlying56
  have d1 : decide ((40 : Int) ≤ (n : Int)) = false := decide_eq_false (by omega)
  have d2 : decide (40 ≤ n) = false := decide_eq_false (by omega)
  have BX := Blk.new w (vcells (v0, v1, v2)) 56
  have hb := (Below.refl w.heap.size w).alloc (Nat.le_refl _) (.cells #[.int .i64 v0, .int .i64 v1, .string v2] 56)
  have hfl : Hid ((fcells l).length = n * 3) := Lib.hid (by rw [fcells_len, hn]; omega)
  have HS := Lib.hid (fun (wx : World) (h : Below w.heap.size w wx) => (hs.below h).more h.size)
  clear hs
  go_enter Try.func27, Try.ntmps27
  go_wp2_with fail
  obtain ⟨W, hW⟩ : ∃ W, W = w.alloc (.cells #[.int .i64 v0, .int .i64 v1, .string v2] 56) := ⟨_, rfl⟩
  have HBX := Lib.hid (show Blk W w.heap.size (vcells (v0, v1, v2)) by rw [hW]; exact BX)
  have HB := Lib.hid (show Below w.heap.size w W by rw [hW]; exact hb)
  rw [← hW]
  clear hW BX hb
  refine wp_region_tail [(10, relRow0 w.heap.size 56 3), (12, relRowN w.heap.size 56 3 n (fcells l)), (14, relPk (v0, v1, v2))] 16 5 (by kernel_rfl) (by kernel_rfl) (by kernel_rfl) (by rfl) ?_
  refine wpG_open (relRow0 w.heap.size 56 3) (by rfl) (by rfl) (fun w1 hl => row0_gives 54 56 3 w.heap.size rfl run_rpk0 w1 (Nat.le_trans HB.out.size hl.1.size)) ?_
  rintro _ ⟨_, _, _, ⟨_, b, rfl, _⟩⟩
  simp only [Act.put, List.setIfInBounds_toArray, List.set_cons_zero, List.set_cons_succ]
  iterate 1 (refine wpG_quiet (by rfl) (by rfl) (by rfl) (fun K hK => ?_); go_big_quiet_op; refine hK _ ?_; clear hK K)
  refine wpG_open (relRowN w.heap.size 56 3 n (fcells l)) (by rfl) (by rfl) (fun w1 hl => ?_) ?_
  · have h10 := hl.2 10 _ (by simp [Op.operands, Call.operands]) rfl (by intro h; cases h)
    exact app_gives (.tmp 10) (.tmp 11) w.heap.size 54 56 i0 _ 3 32 rfl Try.underlying54 hi0 hz0 hz1 hz2 rfl (by omega) w1 h10 ad n c (fcells l) rfl hfl.out (HS.out w1 (HB.out.trans (hl.1.mono HB.out.size))) (fcells_one l) (by unfold maxLen; omega) (by omega)
  rintro u ⟨_, _, _, hrow⟩
  obtain ⟨A1, c1, rfl⟩ := row_form hrow
  clear hrow
  simp only [Act.put, List.setIfInBounds_toArray, List.set_cons_zero, List.set_cons_succ]
  refine wpG_run (by rfl) (by rfl) (.agg #[.int .i64 v0, .int .i64 v1, .string v2]) (fun w1 hl => exec_load 56 (.tmp 3) rfl w.heap.size 0 rfl (vcells (v0, v1, v2)) _ ((HBX.out.later hl.1).range 0 _ rfl) hu rfl info_rpk) ?_
  simp only [Act.put, List.setIfInBounds_toArray, List.set_cons_zero, List.set_cons_succ]
  refine wpG_open (relPk (v0, v1, v2)) (by rfl) (by rfl) (fun w1 hl => rpk1_gives (.tmp 13) v0 v1 v2 rfl rfl w1) ?_
  rintro _ ⟨_, _, _, ⟨g, rfl, _⟩⟩
  simp only [Act.put, List.setIfInBounds_toArray, List.set_cons_zero, List.set_cons_succ]
  refine wpG_nil fun w1 hl hS => ?_
  obtain ⟨⟨_, hrow⟩, ⟨g', eg, hB1⟩⟩ := hS
  cases eg
  have hb1 := HB.out.trans (hl.mono HB.out.size)
  have hsee : Sees w1 w1.heap.size (some ⟨g, 0, none⟩) (vcells (v0, v1, v2)) := fun _ => ⟨g, 0, rfl, hB1.lt, fun j hj => by rw [Nat.zero_add]; exact hB1.cell (List.getElem?_eq_getElem hj)⟩
  have hrw : Hid (w1.ownsRow w.heap.size 56 3 (.slice A1 n c1) n (fcells l)) := Lib.hid hrow
  refine wpList_appk _ rfl (.tmp 12) (.tmp 14) 54 rfl w.heap.size 56 i0 _ 3 32 Try.underlying54 hi0 hz0 hz1 hz2 rfl (by omega) (.slice A1 n c1) n (fcells l) (by rfl) hrw.out w1.heap.size (some ⟨g, 0, none⟩) 1 (vcells (v0, v1, v2)) 1 (by rfl) rfl hsee (vcells_one _) (by unfold maxLen; omega) (by omega) hb1.size ?_
  intro A3 c3 w3 hr3 hb3 hg3 hat3
  go_wp2_with fail
  exact bodyPost_ret (results_tmp2 rfl _ _ _) rfl ⟨A3, c3, rfl, by rw [fcells_app]; exact hr3, hb1.trans hb3⟩
end Go.Proofs.Ytlagodbkkkdmkaa
