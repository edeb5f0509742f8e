/- The queue's example. -/
import Derived.Test.YtjlpccdlpgkgoaaQeE
namespace Go.Proofs.Ytjlpccdlpgkgoaa
set_option linter.unusedVariables false
set_option linter.unusedSimpArgs false
open Go Go.RowKit Go.Shelf BitM

def aw1 : Wr := (1, 4, 1#32, 0#32, zeros)
def aw2 : Wr := (1, 5, 1#32, 0#32, zeros)
theorem run_awc (w : World) : (Instr.build 32 #[(0, .int .i64 1), (1, .int .i64 4)]).run Try.prog w = .ok (.agg (ccells 1 4 0 zeros).toArray) w := by kernel_rfl
theorem exec_awc {a : Act} {op : Oper} (ho : op.op = .build 32 #[(0, .const (.int .i64 1)), (1, .const (.int .i64 4))]) (w : World) : (execOp a.eval op).run Try.prog w = .ok (.value (.agg (ccells 1 4 0 zeros).toArray)) w := by
  unfold execOp
  simp only [ho, List.map_toArray, List.map_cons, List.map_nil, Act.eval, Sem.run_bind, run_awc, Result.andThen_ok, Sem.run_pure]
theorem run_awp (w : World) : (Instr.build 34 #[(0, .int .u32 1)]).run Try.prog w = .ok (.agg (pcells 1 0 zeros).toArray) w := by kernel_rfl
theorem exec_awp {a : Act} {op : Oper} (ho : op.op = .build 34 #[(0, .const (.int .u32 1))]) (w : World) : (execOp a.eval op).run Try.prog w = .ok (.value (.agg (pcells 1 0 zeros).toArray)) w := by
  unfold execOp
  simp only [ho, List.map_toArray, List.map_cons, List.map_nil, Act.eval, Sem.run_bind, run_awp, Result.andThen_ok, Sem.run_pure]
theorem aw_pchk : pchk 1#32 ((0#32 : BitVec 32).toNat : Int) zeros = 0 := by decide
theorem whole_aw1 : Whole [aw1] := fun x hx => by simp at hx; subst hx; rfl
theorem whole_aw2 : Whole [aw1, aw2] := fun x hx => by simp at hx; rcases hx with rfl | rfl <;> rfl
theorem aw_l1 : ([] ++ [((1 : Int), qbase [] 1 4, 1#32, 0#32, zeros)] : List Wr) = [aw1] := rfl
theorem aw_l2 : ([aw1] ++ [((1 : Int), qbase [aw1] 1 4, 1#32, 0#32, zeros)] : List Wr) = [aw1, aw2] := rfl
theorem aw_rest : (rest ([aw1, aw2] : List Wr)[0].1 [aw1, aw2]).length = 0 := by decide
theorem aw_mine : (mine ([aw1, aw2] : List Wr)[0].1 [aw1, aw2]).length = 2 := by decide
theorem aw_done (A : Option Addr) (c : Nat) (w : World) (h : Sees w w.heap.size A (wrs [aw1, aw2])) : Calls Try.prog 11 #[.slice A 2 c, .bool false] w fun e w' => ∃ Al cl Ag cg, e = .returned (.tuple #[.slice Al 0 cl, .slice Ag 2 cg]) ∧ Below w.heap.size w w' :=
  (done_not A 2 c [aw1, aw2] w rfl whole_aw2 h (by decide) (by decide)).mono fun e w' ⟨Al, cl, Ag, cg, he, _, _, hb⟩ => ⟨Al, cl, Ag, cg, by rw [aw_rest, aw_mine] at he; exact he, hb⟩
theorem aw_cells {w : World} {B : Nat} {A : Option Addr} (h : Sees w B A (wrs [aw1, aw2])) : ∃ b o, A = some ⟨b, o, none⟩ ∧ w.cell? ⟨b, o + 1, none⟩ = some (.int .i64 4) ∧ w.cell? ⟨b, o + 29, none⟩ = some (.int .i64 5) := by
  obtain ⟨b, o, rfl, _, _, _, k0⟩ := sees_wr h whole_aw2 0 (by decide)
  obtain ⟨b', o', e', _, _, _, k1⟩ := sees_wr h whole_aw2 1 (by decide)
  injection e' with e'
  injection e' with e1 e2
  subst e1
  subst e2
  refine ⟨b, o, rfl, ?_, ?_⟩
  · rw [Nat.zero_mul, Nat.add_zero] at k0; exact k0
  · rw [Nat.one_mul, Nat.add_assoc] at k1; exact k1
set_option maxRecDepth 100000 in
set_option maxHeartbeats 6400000 in
theorem awake_any (w : World) : Calls Try.prog 6 #[] w fun e w' => e = .returned (.bool true) ∧ Below w.heap.size w w' := by
  have huc := Try.underlying32
  have HP1 := Lib.hid (fun wx : World => push_any none 0 0 [] wx 1 4 0 zeros 1#32 0#32 zeros zeros_len zeros_len rfl (fun x hx => by cases hx) (fun h => by cases h) 100 (fun x hx => by cases hx) (by decide) (by decide) (by decide))
  have HP2 := Lib.hid (fun (wx : World) A c (h : Sees wx wx.heap.size A (wrs [aw1])) => push_any A 1 c [aw1] wx 1 4 0 zeros 1#32 0#32 zeros zeros_len zeros_len rfl whole_aw1 h 100 (fun x hx => by simp at hx; subst hx; exact ⟨by decide, by decide⟩) (by decide) (by decide) (by decide))
  rw [aw_pchk, show (((1#32 : BitVec 32).toNat : Nat) : Int) = 1 from rfl, show (((0#32 : BitVec 32).toNat : Nat) : Int) = 0 from rfl] at HP1 HP2
  rw [aw_l1] at HP1
  rw [aw_l2] at HP2
  have HD := Lib.hid (fun (wx : World) A c (h : Sees wx wx.heap.size A (wrs [aw1, aw2])) => aw_done A c wx h)
  have HXC := Lib.hid (fun (a : Act) (op : Oper) (ho : op.op = .build 32 #[(0, .const (.int .i64 1)), (1, .const (.int .i64 4))]) (wx : World) => exec_awc (a := a) ho wx)
  have HXP := Lib.hid (fun (a : Act) (op : Oper) (ho : op.op = .build 34 #[(0, .const (.int .u32 1))]) (wx : World) => exec_awp (a := a) ho wx)
  have HAC := Lib.hid (fun (wx : World) A (h : Sees wx wx.heap.size A (wrs [aw1, aw2])) => aw_cells h)
  obtain ⟨cs, hcs⟩ : ∃ cs, cs = ccells 1 4 0 zeros := ⟨_, rfl⟩
  have HCL : Hid (cs.length = 27) := Lib.hid (by rw [hcs]; rfl)
  have hone : ∀ v ∈ cs, v.oneCell' = true := by rw [hcs]; exact ccells_one _ _ _ _
  rw [← hcs] at HP1 HP2 HXC
  obtain ⟨pv, hpv⟩ : ∃ pv, pv = (pcells 1 0 zeros).toArray := ⟨_, rfl⟩
  rw [← hpv] at HP1 HP2 HXP
  clear hcs hpv
  have B1 := Blk.new w (ccells 0 0 0 zeros) 32
  have TH := B1.there 0 27 (by rw [ccells_len 0 0 0 zeros_len]; omega)
  have FIN := B1.whole (ds := cs) (by rw [HCL.out, ccells_len 0 0 0 zeros_len])
  have hb2 := below_sets (B := w.heap.size) (b := w.heap.size) (Nat.le_refl _) cs 0 ((Below.refl _ w).alloc (Nat.le_refl _) (.cells (ccells 0 0 0 zeros).toArray 32))
  rw [zc27] at TH FIN hb2
  have HFIN := Lib.hid FIN
  have HL0 := Lib.hid hb2
  have h27 : cs.toArray.size = 27 := (List.size_toArray).trans HCL.out
  clear B1 FIN hb2
  go_enter Try.func6, Try.ntmps6
  go_wp2_with (first
    | (refine wpList_exec (by rfl) (.agg cs.toArray) (HXC.out _ _ rfl _) ?_)
    | (refine wpList_exec (by rfl) (.agg pv) (HXP.out _ _ rfl _) ?_)
    | (refine wpList_store_mid rfl 32 (.tmp 1) (.tmp 7) rfl w.heap.size 0 cs.toArray rfl rfl (by rw [h27]; exact TH) (by rw [h27]; exact info_card) (all_oneCell_toArray hone) ?_
       simp only [Act.put]
       generalize hw0 : World.setCells _ w.heap.size 0 cs.toArray.toList = w0
       have F0 : Blk w0 w.heap.size cs := hw0 ▸ HFIN.out
       have B0 : Hid (Below w.heap.size w w0) := Lib.hid (hw0 ▸ HL0.out)
       have rc := F0.range 0 cs (by rw [List.drop_zero, List.take_length])
       clear hw0 TH HFIN HL0)
    | (refine wpList_load_mid rfl 32 (.tmp 1) rfl w.heap.size 0 rfl cs _ rc huc rfl (by rw [HCL.out]; exact info_card) ?_
       clear rc)
    | fail)
  refine (HP1.out _).mono ?_
  rintro e w1 ⟨hb1, ⟨h, _⟩ | ⟨_, h, _⟩ | ⟨_, _, A1, c1, rfl, hr1⟩⟩
  · exact absurd rfl h
  · omega
  have HB1 := Lib.hid (B0.out.trans (hb1.mono B0.out.size))
  have HC1 := Lib.hid (F0.later hb1)
  have rc := HC1.out.range 0 cs (by rw [List.drop_zero, List.take_length])
  have HS1 := Lib.hid (row_sees hr1)
  clear hb1 hr1 F0
  go_wp2_with (first
    | (refine wpList_exec (by rfl) (.agg pv) (HXP.out _ _ rfl _) ?_)
    | (refine wpList_load_mid rfl 32 (.tmp 1) rfl w.heap.size 0 rfl cs _ rc huc rfl (by rw [HCL.out]; exact info_card) ?_
       clear rc)
    | fail)
  refine (HP2.out _ _ _ HS1.out).mono ?_
  rintro e w2 ⟨hb2, ⟨h, _⟩ | ⟨_, h, _⟩ | ⟨_, _, A2, c2, rfl, hr2⟩⟩
  · exact absurd rfl h
  · omega
  have HB2 := Lib.hid (HB1.out.trans (hb2.mono HB1.out.size))
  have HS2 := Lib.hid (row_sees hr2)
  clear hb2 hr2
  go_wp2_with fail
  refine (HD.out _ _ _ HS2.out).mono ?_
  rintro e w3 ⟨Al, cl, Ag, cg, rfl, hb3⟩
  have HB3 := Lib.hid (HB2.out.trans (hb3.mono HB2.out.size))
  obtain ⟨b, o, rfl, k0, k1⟩ := HAC.out w3 _ ((HS2.out.below hb3).more hb3.size)
  clear hb3
  go_wp2_with fail
  go_ret
  exact ⟨rfl, HB3.out⟩
end Go.Proofs.Ytjlpccdlpgkgoaa
