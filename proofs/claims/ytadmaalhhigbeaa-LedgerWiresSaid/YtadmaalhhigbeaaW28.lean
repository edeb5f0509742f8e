/- Ledger: Read of no reader. -/
import Derived.Test.YtadmaalhhigbeaaW27
namespace Go.Proofs.Ytadmaalhhigbeaa
set_option linter.unusedVariables false
set_option linter.unusedSimpArgs false
open Go Go.RowKit OctM BitM

set_option maxRecDepth 100000 in
set_option maxHeartbeats 6400000 in
theorem lread_nil (w : World) : Calls Try.prog 16 #[.pointer none] w fun x w' => x = .returned (.agg (rpc zrp).toArray) ∧ Below w.heap.size w w' := by
  have hu := Try.underlying26
  obtain ⟨W0, hW0⟩ : ∃ W0, W0 = (w.alloc (.cells #[.pointer none] 34)).alloc (.cells #[.int .i64 0, .int .i64 0, .int .i64 0, .int .i64 0, .int .i64 0, .int .i64 0, .int .i64 0, .int .i64 0, .slice none 0 0, .int .u32 0] 26) := ⟨_, rfl⟩
  have hb0 := below_a2 w (.cells #[.pointer none] 34) (.cells #[.int .i64 0, .int .i64 0, .int .i64 0, .int .i64 0, .int .i64 0, .int .i64 0, .int .i64 0, .int .i64 0, .slice none 0 0, .int .u32 0] 26)
  have hx0 : Blk W0 w.heap.size [.pointer none] := by rw [hW0]; exact (Blk.new w [.pointer none] _).alloc _
  have hz0 : Blk W0 (w.heap.size + 1) [.int .i64 0, .int .i64 0, .int .i64 0, .int .i64 0, .int .i64 0, .int .i64 0, .int .i64 0, .int .i64 0, .slice none 0 0, .int .u32 0] := by
    have hz := Blk.new (w.alloc (.cells #[.pointer none] 34)) [.int .i64 0, .int .i64 0, .int .i64 0, .int .i64 0, .int .i64 0, .int .i64 0, .int .i64 0, .int .i64 0, .slice none 0 0, .int .u32 0] 26
    rw [show (w.alloc (.cells #[.pointer none] 34)).heap.size = w.heap.size + 1 by simp] at hz
    rw [hW0]; exact hz
  rw [← hW0] at hb0
  have HW0 := Lib.hid hW0
  have HX0 := Lib.hid hx0
  have HZ0 := Lib.hid hz0
  have HB0 := Lib.hid hb0
  clear hW0 hx0 hz0 hb0
  go_enter Try.func16, Try.ntmps16
  go_wp2_with fail
  rw [← HW0.out]
  refine (nil_lst _ 2 4 W0 HX0.out).mono ?_
  rintro x w' ⟨rfl, rfl⟩
  go_wp2_with fail
  refine (nil_lst _ 0 5 _ HX0.out).mono ?_
  rintro x w' ⟨rfl, rfl⟩
  go_wp2_with fail
  refine (nil_lst _ 1 1099511627776 _ HX0.out).mono ?_
  rintro x w' ⟨rfl, rfl⟩
  go_wp2_with fail
  refine (nil_lst _ 0 16 _ HX0.out).mono ?_
  rintro x w' ⟨rfl, rfl⟩
  clear HW0
  obtain ⟨W1, hW1⟩ : ∃ W1, W1 = W0.alloc (.cells #[.int .i64 0, .int .i64 0, .int .i64 0, .int .i64 0, .int .i64 0, .int .i64 0, .int .i64 0, .int .i64 0, .slice none 0 0, .int .u32 0] 26) := ⟨_, rfl⟩
  have hb1 : Below w.heap.size w W1 := by rw [hW1]; exact HB0.out.alloc HB0.out.size _
  have hx1 : Blk W1 w.heap.size [.pointer none] := by rw [hW1]; exact HX0.out.alloc _
  have hz1 : Blk W1 (w.heap.size + 1) [.int .i64 0, .int .i64 0, .int .i64 0, .int .i64 0, .int .i64 0, .int .i64 0, .int .i64 0, .int .i64 0, .slice none 0 0, .int .u32 0] := by rw [hW1]; exact HZ0.out.alloc _
  have hc1 : Blk W1 W0.heap.size [.int .i64 0, .int .i64 0, .int .i64 0, .int .i64 0, .int .i64 0, .int .i64 0, .int .i64 0, .int .i64 0, .slice none 0 0, .int .u32 0] := by rw [hW1]; exact Blk.new _ _ _
  have h41 : w.heap.size + 1 < W0.heap.size := HZ0.out.lt
  have HW1 := Lib.hid hW1
  have HX1 := Lib.hid hx1
  have HZ1 := Lib.hid hz1
  have HC1 := Lib.hid hc1
  have HB1 := Lib.hid hb1
  clear hW1 hx1 hz1 hc1 hb1 HX0 HZ0 HB0
  go_wp2_with fail
  rw [← HW1.out]
  refine (nil_lst _ 0 1099511627776 W1 HX1.out).mono ?_
  rintro x w' ⟨rfl, rfl⟩
  clear HW1
  generalize W0.heap.size = b4 at *
  have kx : W1.cell? ⟨w.heap.size, 0, none⟩ = some (.pointer none) := HX1.out.cell (j := 0) rfl
  have kz0 := HC1.out.cell (j := 0) rfl
  have kc6 := HC1.out.cell (j := 6) rfl
  have kf6 := HC1.out.frozen 6
  have hn2 : w.heap.size ≠ b4 := by omega
  have hn3 : b4 ≠ w.heap.size := by omega
  obtain ⟨W2, hW2⟩ : ∃ W2, W2 = W1.setCell ⟨b4, 6, none⟩ (.int .i64 0) := ⟨_, rfl⟩
  have hb2 : Below w.heap.size w W2 := by rw [hW2]; exact HB1.out.setCell (p := ⟨b4, 6, none⟩) (by show w.heap.size ≤ b4; omega) _
  have hz2 : Blk W2 (w.heap.size + 1) [.int .i64 0, .int .i64 0, .int .i64 0, .int .i64 0, .int .i64 0, .int .i64 0, .int .i64 0, .int .i64 0, .slice none 0 0, .int .u32 0] := by rw [hW2]; exact HZ1.out.setOther 6 _ (by omega)
  have HW2 := Lib.hid hW2
  have TH := hz2.there 0 10 (by simp)
  have HZ2 := Lib.hid hz2
  have HB2 := Lib.hid hb2
  clear hW2 hz2 hb2 HX1 HZ1 HB1 HC1
  go_wp2_with fail
  rw [← HW2.out]
  refine (nil_err W2).mono ?_
  rintro x w' ⟨rfl, rfl⟩
  clear HW2 kx kz0 kc6 kf6
  have honr := all_oneCell_toArray (rpc_one zrp)
  have hlnr := rpc_len zrp
  obtain ⟨cr, hcr⟩ : ∃ cr, cr = rpc zrp := ⟨_, rfl⟩
  rw [← hcr] at honr hlnr
  have hfin : Blk (W2.setCells (w.heap.size + 1) 0 cr) (w.heap.size + 1) cr := by
    have hb := HZ2.out.sets cr 0 (by rw [hlnr]; simp)
    rw [List.take_zero, List.nil_append, List.drop_eq_nil_of_le (by rw [hlnr]; simp), List.append_nil] at hb
    exact hb
  have hbf : Below w.heap.size w (W2.setCells (w.heap.size + 1) 0 cr) := below_sets (by omega) _ _ HB2.out
  obtain ⟨W9, hW9⟩ : ∃ W9, W9 = W2.setCells (w.heap.size + 1) 0 cr := ⟨_, rfl⟩
  rw [← hW9] at hfin hbf
  have HBF := Lib.hid hbf
  have FIN := Lib.hid hfin
  have HW9 := Lib.hid hW9
  have HLN := Lib.hid hlnr
  have HCR := Lib.hid hcr
  have HONE := Lib.hid honr
  clear hfin hbf hW9 hcr honr hlnr HZ2 HB2
  go_wp2_with (first
    | (refine wpList_store_mid rfl 26 (.tmp 2) (.tmp 46) rfl (w.heap.size + 1) 0 cr.toArray rfl (by rw [HCR.out]; rfl) (by simpa [HLN.out] using TH) (by simpa [HLN.out] using info_rp) HONE.out ?_
       rw [← HW9.out])
    | fail)
  exact bodyPost_ret (v := .agg cr.toArray) (results_blk (q := 2) rfl _ _ (w.heap.size + 1) cr _ rfl FIN.out hu rfl (by rw [HLN.out]; exact info_rp)) rfl ⟨by rw [HCR.out], HBF.out⟩
end Go.Proofs.Ytadmaalhhigbeaa
