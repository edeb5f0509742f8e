/- Tokens: reading of none; the text of the chapter's example. -/
import Derived.Test.YticdpfjajkfheaaDoorTokB
import Derived.Test.YticdpfjajkfheaaDoorShelf
import Derived.Test.YticdpfjajkfheaaDoorTab
import Derived.Test.YticdpfjajkfheaaDoorSteady
namespace Go.Proofs.YticdpfjajkfheaaDoor
set_option linter.unusedVariables false
open Go Go.RowKit OctM

set_option maxRecDepth 100000 in
set_option maxHeartbeats 3200000 in
theorem nil_tok (w : World) : Calls Tryd.prog 28 #[.pointer none] w fun x w' => x = .returned (.agg (tks 0 0 0 0).toArray) ∧ Below w.heap.size w w' := by
  have hu := Tryd.underlying42
  have B2 := Blk.new w (tks 0 0 0 0) 42
  have hb := (Below.refl w.heap.size w).alloc (Nat.le_refl _) (.cells (tks 0 0 0 0).toArray 42)
  go_enter Tryd.func28, Tryd.ntmps28
  go_wp2_with fail
  refine (nil_num _ _).mono ?_
  rintro x w1 ⟨rfl, h1⟩
  generalize hw0 : w.alloc (.cells #[Value.int .i64 0, .int .i64 0, .int .i64 0, .int .i64 0] 42) = w0 at h1
  have B2' : Blk w0 w.heap.size (tks 0 0 0 0) := hw0 ▸ B2
  have hb0 : Below w.heap.size w w0 := hw0 ▸ hb
  clear B2 hb hw0
  subst h1
  go_wp2_with fail
  refine (nil_num _ _).mono ?_
  rintro x w1 ⟨rfl, rfl⟩
  have B3 := Blk.new w0 (tks 0 0 0 0) 42
  have T3 := B3.there 0 4 (Nat.le_refl _)
  have S3 := B3.wholeT (ds := tks 0 0 0 0) rfl
  have LE3 : Le w0 (World.setCells (w0.alloc (.cells (tks 0 0 0 0).toArray 42)) w0.heap.size 0 (tks 0 0 0 0)) := below_sets (Nat.le_refl _) _ 0 ((Below.refl w0.heap.size w0).alloc (Nat.le_refl _) _)
  have O3 := tks_one 0 0 0 0
  have hsz := hb0.size
  have hb2 := B2'.lt
  obtain ⟨g3, hg3⟩ : ∃ z, z = w0.heap.size := ⟨_, rfl⟩
  rw [← hg3] at T3 S3 LE3 hsz hb2
  have HG3 := Lib.hid hg3
  clear hg3 B3
  go_wp2_with (first
    | (rw [← HG3.out]
       refine wpList_store_mid rfl 42 (.tmp 3) (.tmp 8) rfl g3 0 (tks 0 0 0 0).toArray rfl rfl T3 info_tok O3 ?_
       simp only [Act.put]
       generalize hw3 : World.setCells _ g3 0 (tks 0 0 0 0).toArray.toList = w3
       have S4 : Blk w3 g3 (tks 0 0 0 0) := hw3 ▸ S3
       have LE3' : Le w0 w3 := hw3 ▸ LE3
       have q1 : w3.cell? ⟨g3, 1, none⟩ = some (.int .i64 0) := S4.cell rfl
       clear hw3 T3 S3 LE3)
    | fail)
  refine (nil_fail _ _).mono ?_
  rintro x w4 ⟨rfl, rfl⟩
  replace B2' := B2'.later LE3'
  replace hb0 := hb0.trans (LE3'.mono hb0.size)
  go_wp2_with fail
  refine (nil_num _ _).mono ?_
  rintro x w4 ⟨rfl, rfl⟩
  go_wp2_with fail
  refine (nil_num _ _).mono ?_
  rintro x w4 ⟨rfl, rfl⟩
  have f2 := S4.frozen 2
  have f3 := S4.frozen 3
  have q2 : w3.cell? ⟨g3, 2, none⟩ = some (.int .i64 0) := S4.cell rfl
  have q3 : w3.cell? ⟨g3, 3, none⟩ = some (.int .i64 0) := S4.cell rfl
  have B8 := (B2'.setOther (b := g3) 2 (.int .i64 0) (by omega)).setOther (b := g3) 3 (.int .i64 0) (by omega)
  have H8 : Below w.heap.size w ((w3.setCell ⟨g3, 2, none⟩ (.int .i64 0)).setCell ⟨g3, 3, none⟩ (.int .i64 0)) := (hb0.setCell hsz (.int .i64 0)).setCell hsz (.int .i64 0)
  go_wp2_with fail
  refine (nil_err _).mono ?_
  rintro x w9 ⟨rfl, h9⟩
  generalize (w3.setCell ⟨g3, 2, none⟩ (.int .i64 0)).setCell ⟨g3, 3, none⟩ (.int .i64 0) = w8 at B8 H8 h9
  subst h9
  have T8 := B8.there 0 4 (Nat.le_refl _)
  have FIN := B8.wholeT (ds := tks 0 0 0 0) rfl
  have H9 := below_sets (Nat.le_refl w.heap.size) (tks 0 0 0 0) 0 H8
  clear f2 f3 q1 q2 q3 S4
  go_wp2_with (first
    | (refine wpList_store_mid rfl 42 (.tmp 2) (.tmp 23) rfl w.heap.size 0 (tks 0 0 0 0).toArray rfl rfl T8 info_tok O3 ?_)
    | fail)
  exact bodyPost_ret (v := .agg (tks 0 0 0 0).toArray) (tok_results (q := 2) rfl _ _ w.heap.size _ _ rfl FIN hu rfl info_tok) rfl ⟨rfl, H9⟩

/-- A slot that holds a slice of four texts. -/
def relStr4 (a b c d : ByteArray) : Rel where
  rel x w := ∃ g, x = .slice (some ⟨g, 0, none⟩) 4 4 ∧ Blk w g [.string a, .string b, .string c, .string d]
  mono := fun x w w' h ⟨g, e, hr⟩ => ⟨g, e, hr.later h⟩
  real := fun w ⟨g, e, _⟩ => by cases e
theorem run_str4 (a b c d : ByteArray) (w : World) : (Instr.buildSlice 73 4 #[(0, .string a), (1, .string b), (2, .string c), (3, .string d)]).run Tryd.prog w = .ok (.slice (some ⟨w.heap.size, 0, none⟩) 4 4) (w.alloc (.cells [.string a, .string b, .string c, .string d].toArray 9)) := by kernel_rfl
theorem str4_gives {a : Act} {op : Oper} (x y z u : Operand) (p q r s : ByteArray) (ho : op.op = .buildSlice 73 4 #[(0, x), (1, y), (2, z), (3, u)]) (hx : a.eval x = .string p) (hy : a.eval y = .string q) (hz : a.eval z = .string r) (hu : a.eval u = .string s) (w : World) : gives Tryd.prog op a (relStr4 p q r s).rel w := by
  unfold gives execOp
  simp only [ho, List.map_toArray, List.map_cons, List.map_nil, hx, hy, hz, hu, Sem.run_bind, run_str4, Result.andThen_ok, Sem.run_pure]
  exact ⟨(Below.refl _ _).alloc (Nat.le_refl _) _, _, rfl, Blk.new w _ _⟩
/-- strings.Join of four texts by points. -/
theorem join4 (g : Nat) (a b c d : ByteArray) (w : World) (h : Blk w g [.string a, .string b, .string c, .string d]) (hl : (Lib.join ([a, b, c, d].map (·.data.toList)) [46]).length ≤ 140737488355328) :
    Calls Tryd.prog 48 #[.slice (some ⟨g, 0, none⟩) 4 4, .string { data := #[46] }] w fun e w' => e = .returned (.string (str (Lib.join ([a, b, c, d].map (·.data.toList)) [46]))) ∧ Below w.heap.size w w' := by
  have h := Tryd.strings_Join g 0 4 [a, b, c, d] { data := #[46] } w (fun j x hj => by
    rw [Nat.zero_add]
    match j with
    | 0 => simp at hj; subst hj; exact h.cell rfl
    | 1 => simp at hj; subst hj; exact h.cell rfl
    | 2 => simp at hj; subst hj; exact h.cell rfl
    | 3 => simp at hj; subst hj; exact h.cell rfl
    | n + 4 => simp at hj) h.lt (by simp) (by simp) hl
  exact h
end Go.Proofs.YticdpfjajkfheaaDoor
