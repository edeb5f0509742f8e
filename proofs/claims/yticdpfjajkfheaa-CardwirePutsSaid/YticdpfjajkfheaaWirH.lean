/- Cards as bytes: whether the layer is awake; a slice of bytes as a string. -/
import Derived.Test.YticdpfjajkfheaaWirG
import Derived.Test.YticdpfjajkfheaaCardI
import Derived.Test.YticdpfjajkfheaaSteady
namespace Go.Proofs.Yticdpfjajkfheaa
set_option linter.unusedVariables false
open Go Go.RowKit BitM OctM

theorem str_conv (w : World) (B : Nat) (A : Option Addr) (n c : Nat) (l : List UInt8) (s : ByteArray) (hn : l.length = n) (hs : Sees w B A (bvs l)) (h : s = str l) : (convert 30 9 (.slice A n c)).run Try.prog w = .ok (.string s) w := by
  subst h
  exact run_str (P := Try.prog) w B 30 5 9 Try.underlying30 Try.underlying5 Try.underlying9 A n c l hn hs

section
variable {P : Program} {w : World} {a : Act} {op : Oper}
theorem exec_conv (x : Operand) (t u : TypeId) (ho : op.op = .convert t u x) (v : Value) (hx : a.eval x = v) (r : Value) (h : (convert t u v).run P w = .ok r w) : (execOp a.eval op).run P w = .ok (.value r) w := by
  unfold execOp
  simp only [ho, hx, Sem.run_bind, Sem.run_pure, Result.andThen_ok, h]
end

/-- The card that awake writes. -/
def awk : List V3 := zv :: (1, 7, ⟨#[]⟩) :: List.replicate 6 zv
theorem awk_bytes : cbs 1 2 1 awk = [1, 2, 1, 2, 1, 7] := by decide +kernel
theorem awk_cells : (ccells 1 2 1 zeros).take 6 ++ vcells (1, 7, ⟨#[]⟩) ++ (ccells 1 2 1 zeros).drop 9 = ccells 1 2 1 awk := rfl

set_option maxRecDepth 100000 in
set_option maxHeartbeats 3200000 in
theorem wire_awake (w : World) : Calls Try.prog 8 #[] w fun e w' => e = .returned (.bool true) ∧ Below w.heap.size w w' := by
  have HPC := Lib.hid (fun wx : World => putcard_any 1 2 1 awk none 0 0 [] wx rfl (by decide) rfl Sees.nil_ (by omega))
  rw [List.nil_append, awk_bytes] at HPC
  have B1 := Blk.new w (ccells 0 0 0 zeros) 27
  have T1 := B1.there 0 27 (by rw [ccells_len 0 0 0 zeros_len]; omega)
  have F1 := B1.whole (ds := ccells 1 2 1 zeros) rfl
  have T2 := F1.there 6 3 (by rw [ccells_len 1 2 1 zeros_len]; omega)
  have F2 := F1.sets (vcells (1, 7, ⟨#[]⟩)) 6 (by rw [ccells_len 1 2 1 zeros_len]; decide)
  have F2' : Blk (((w.alloc (.cells (ccells 0 0 0 zeros).toArray 27)).setCells w.heap.size 0 (ccells 1 2 1 zeros)).setCells w.heap.size 6 (vcells (1, 7, ⟨#[]⟩))) w.heap.size (ccells 1 2 1 awk) := F2
  have hb2 : Below w.heap.size w (((w.alloc (.cells (ccells 0 0 0 zeros).toArray 27)).setCells w.heap.size 0 (ccells 1 2 1 zeros)).setCells w.heap.size 6 (vcells (1, 7, ⟨#[]⟩))) := below_sets (Nat.le_refl _) _ 6 (below_sets (Nat.le_refl _) _ 0 ((Below.refl w.heap.size w).alloc (Nat.le_refl _) _))
  have O1 : (ccells 1 2 1 zeros).toArray.all (·.oneCell') = true := all_oneCell_toArray (ccells_one _ _ _ _)
  have O2 : (vcells (1, 7, ⟨#[]⟩)).toArray.all (·.oneCell') = true := all_oneCell_toArray (by intro v hv; simp only [vcells, List.mem_cons, List.not_mem_nil, or_false] at hv; rcases hv with rfl | rfl | rfl <;> rfl)
  have hu := Try.underlying27
  have hlen : (ccells 1 2 1 awk).length = 27 := ccells_len 1 2 1 rfl
  obtain ⟨ck, hck⟩ : ∃ z, z = ccells 1 2 1 awk := ⟨_, rfl⟩
  rw [← hck] at F2' HPC hlen
  have HL := Lib.hid hlen
  clear F2 F1 B1 hck hlen
  go_enter Try.func8, Try.ntmps8
  go_wp2_with (first
    | (refine wpList_store_mid rfl 27 (.tmp 1) (.tmp 2) rfl w.heap.size 0 (ccells 1 2 1 zeros).toArray rfl rfl T1 info_card O1 ?_
       simp only [Act.put]
       generalize hw6 : World.setCells _ w.heap.size 0 (ccells 1 2 1 zeros).toArray.toList = w6
       have T2' : w6.there w.heap.size 6 3 := hw6 ▸ T2
       have F6 : Blk (w6.setCells w.heap.size 6 (vcells (1, 7, ⟨#[]⟩))) w.heap.size ck := hw6 ▸ F2'
       have hb6 : Below w.heap.size w (w6.setCells w.heap.size 6 (vcells (1, 7, ⟨#[]⟩))) := hw6 ▸ hb2
       clear hw6 T1 T2 F2' hb2 O1)
    | (refine wpList_store_mid rfl 24 (.tmp 5) (.tmp 3) rfl w.heap.size 6 (vcells (1, 7, ⟨#[]⟩)).toArray rfl rfl T2' info_val O2 ?_
       simp only [Act.put]
       generalize hw7 : World.setCells _ w.heap.size 6 (vcells (1, 7, ⟨#[]⟩)).toArray.toList = w7
       have F7 : Blk w7 w.heap.size ck := hw7 ▸ F6
       have hb7 : Below w.heap.size w w7 := hw7 ▸ hb6
       have RG := F7.wholeC
       clear hw7 T2' F6 F7 hb6 O2)
    | (refine wpList_load_mid rfl 27 (.tmp 1) rfl w.heap.size 0 rfl ck _ RG hu rfl (by rw [HL.out]; exact info_card) ?_)
    | fail)
  refine (HPC.out _).mono ?_
  rintro e w8 ⟨A8, c8, rfl, o8, b8⟩
  have hr := str_conv w8 w8.heap.size A8 6 c8 _ ⟨#[1, 2, 1, 2, 1, 7]⟩ rfl o8.sees rfl
  clear RG o8
  go_wp2_with (first
    | (refine wpList_exec (by rfl) (.string ⟨#[1, 2, 1, 2, 1, 7]⟩) (exec_conv (.tmp 7) 30 9 rfl _ rfl _ hr) ?_)
    | fail)
  go_ret
  exact ⟨rfl, hb7.trans (b8.mono hb7.size)⟩
end Go.Proofs.Yticdpfjajkfheaa
