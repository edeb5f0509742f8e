/- CardMerges: whether the layer is awake. -/
import Derived.Test.YtgdidamjgaegkaaCardH
import Derived.Test.YtgdidamjgaegkaaCardI
namespace Go.Proofs.Ytgdidamjgaegkaa
set_option linter.unusedVariables false
open Go Go.RowKit BitM

/-- The patch that awake writes. -/
def awf : List V3 := (1, 7, ⟨#[]⟩) :: List.replicate 7 zv
theorem aw_p : #[Value.int .u32 1, .int .u32 0, .int .i64 1, .int .i64 7, .string { data := #[] }, .int .i64 0, .int .i64 0, .string { data := #[] }, .int .i64 0, .int .i64 0, .string { data := #[] }, .int .i64 0, .int .i64 0, .string { data := #[] }, .int .i64 0, .int .i64 0, .string { data := #[] }, .int .i64 0, .int .i64 0, .string { data := #[] }, .int .i64 0, .int .i64 0, .string { data := #[] }, .int .i64 0, .int .i64 0, .string { data := #[] }] = (pcells (((1#32 : BitVec 32).toNat : Nat) : Int) 0 awf).toArray := rfl
theorem aw_mix : mix (fun i => has 1#32 (i : Int)) awf zeros = awf := by decide
theorem aw_mix2 : mix (fun i => has 2#32 (i : Int)) awf zeros = zeros := by decide
theorem aw_zc : (ccells 1 1 0 zeros).toArray = #[Value.int .i64 1, .int .i64 1, .int .u32 0, .int .i64 0, .int .i64 0, .string { data := #[] }, .int .i64 0, .int .i64 0, .string { data := #[] }, .int .i64 0, .int .i64 0, .string { data := #[] }, .int .i64 0, .int .i64 0, .string { data := #[] }, .int .i64 0, .int .i64 0, .string { data := #[] }, .int .i64 0, .int .i64 0, .string { data := #[] }, .int .i64 0, .int .i64 0, .string { data := #[] }, .int .i64 0, .int .i64 0, .string { data := #[] }] := rfl

set_option maxRecDepth 100000 in
set_option maxHeartbeats 3200000 in
theorem aw_any (w : World) : Calls Try.prog 11 #[] w fun e w' => e = .returned (.bool true) ∧ Below w.heap.size w w' := by
  have HFR := Lib.hid (fun wx : World => fresh_any 1 0 1#32 awf wx rfl)
  rw [← aw_p, aw_mix, show (if has 1#32 8 = true then (0 : Int) else 0) = 0 from by decide] at HFR
  have HPR := Lib.hid (fun wx : World => project_any 1 1 0 awf 2#32 wx rfl)
  rw [aw_mix2, show (if has 2#32 8 = true then (0 : Int) else 0) = 0 from by decide, show (((2#32 : BitVec 32).toNat : Nat) : Int) = 2 from rfl] at HPR
  have HEQ := Lib.hid (fun wx : World => eq_card 9996 1 1 0 1 1 0 zeros zeros zeros_len zeros_len wx)
  rw [show decide ((1 : Int) = 1 ∧ (1 : Int) = 1 ∧ (0 : Int) = 0 ∧ zeros = zeros) = true from by simp] at HEQ
  obtain ⟨cs, hcs⟩ : ∃ cs, cs = ccells 1 1 0 awf := ⟨_, rfl⟩
  have hl : cs.length = 27 := by rw [hcs]; rfl
  have hone : ∀ v ∈ cs, v.oneCell' = true := by rw [hcs]; exact ccells_one _ _ _ _
  have hc4 : cs[4]? = some (.int .i64 7) := by rw [hcs]; rfl
  rw [aw_zc] at HPR HEQ
  rw [← hcs] at HFR HPR
  have HL := Lib.hid hl
  clear hcs hl
  have hu := Try.underlying27
  go_enter Try.func11, Try.ntmps11
  go_wp2_with fail
  refine (HFR.out _).mono ?_
  rintro e w1 ⟨rfl, hb1⟩
  have B1 := Blk.new w1 (ccells 0 0 0 zeros) 27
  have TH := B1.there 0 27 (by rw [ccells_len 0 0 0 zeros_len]; omega)
  have FIN := B1.whole (ds := cs) (by rw [HL.out, ccells_len 0 0 0 zeros_len])
  have hb2 := below_sets (B := w.heap.size) (b := w1.heap.size) hb1.size cs 0 (hb1.alloc hb1.size (.cells (ccells 0 0 0 zeros).toArray 27))
  rw [zc27] at TH FIN hb2
  have q4 := FIN.cell hc4
  have RG := FIN.wholeC
  have HB2 := Lib.hid hb2
  clear B1 FIN hb1 hb2 hc4
  go_wp2_with (first
    | (refine wpList_store_mid rfl 27 (.tmp 1) (.tmp 5) rfl w1.heap.size 0 cs.toArray rfl rfl (by simpa [HL.out] using TH) (by simpa [HL.out] using info_card) (all_oneCell_toArray hone) ?_)
    | (refine wpList_load_g (by rfl) 27 (.tmp 1) rfl w1.heap.size 0 rfl cs _ RG hu rfl (by rw [HL.out]; exact info_card) ?_))
  refine (HPR.out _).mono ?_
  rintro e w2 ⟨rfl, hb3⟩
  have hb4 := HB2.out.trans (hb3.mono HB2.out.size)
  clear TH RG q4 hb3 HB2
  go_wp2_with (first
    | (refine wpList_exec (by rfl) (.bool true) (exec_eql 27 _ (.tmp 13) (.tmp 14) rfl _ _ rfl rfl guard_card true (HEQ.out _)) ?_))
  go_ret
  exact ⟨rfl, hb4⟩
end Go.Proofs.Ytgdidamjgaegkaa
