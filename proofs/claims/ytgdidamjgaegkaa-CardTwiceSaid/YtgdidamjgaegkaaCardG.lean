/- Cards: what a mask shows of a card; a new card: what each returns. -/
import Derived.Test.YtgdidamjgaegkaaCardC
namespace Go.Proofs.Ytgdidamjgaegkaa
set_option linter.unusedVariables false
open Go Go.RowKit BitM

theorem info_fields : (Try.prog.info? 25).map (·.size) = some 24 := by kernel_rfl
theorem Blk.fieldsC {w : World} {g : Nat} {id ver lab : Int} {f : List V3} (h : Blk w g (ccells id ver lab f)) : w.rangeAt g 3 (fcells f) := by
  refine h.range 3 _ ?_
  unfold ccells
  rw [List.drop_append_of_le_length (by simp), List.drop_eq_nil_of_le (by simp), List.nil_append, List.take_length]
theorem Blk.fieldsP {w : World} {g : Nat} {m lab : Int} {f : List V3} (h : Blk w g (pcells m lab f)) : w.rangeAt g 2 (fcells f) := by
  refine h.range 2 _ ?_
  unfold pcells
  rw [List.drop_append_of_le_length (by simp), List.drop_eq_nil_of_le (by simp), List.nil_append, List.take_length]
theorem Blk.wholeC {w : World} {g : Nat} {cs : List Value} (h : Blk w g cs) : w.rangeAt g 0 cs := h.range 0 cs (by rw [List.drop_zero, List.take_length])
theorem Blk.putFields {w : World} {g : Nat} {id ver lab : Int} {f h : List V3} (hB : Blk w g (ccells id ver lab f)) (hf : f.length = 8) (hh : h.length = 8) :
    Blk (w.setCells g 3 (fcells h)) g (ccells id ver lab h) := by
  have hl : (fcells h).length = 24 := by rw [fcells_len, hh]
  have h2 := hB.sets (fcells h) 3 (by rw [ccells_len id ver lab hf, hl]; omega)
  rw [hl, List.drop_eq_nil_of_le (by rw [ccells_len id ver lab hf]; omega), List.append_nil] at h2
  exact h2

set_option maxRecDepth 100000 in
set_option maxHeartbeats 3200000 in
theorem project_any (id ver lab : Int) (f : List V3) (x : BitVec 32) (w : World) (hf : f.length = 8) :
    Calls Try.prog 20 #[.agg (ccells id ver lab f).toArray, .int .u32 (x.toNat : Int)] w fun e w' =>
      e = .returned (.agg (ccells id ver (if has x 8 then lab else 0) (mix (fun i => has x (i : Int)) f zeros)).toArray) ∧ Below w.heap.size w w' := by
  have HS := Lib.hid (fun wx : World => shown_any lab x f wx hf)
  have hfl : (fcells f).length = 24 := by rw [fcells_len, hf]
  obtain ⟨lb, hlb⟩ : ∃ lb : Int, lb = (if has x 8 then lab else 0) := ⟨_, rfl⟩
  obtain ⟨sf, hsf⟩ : ∃ sf, sf = mix (fun i => has x (i : Int)) f zeros := ⟨_, rfl⟩
  have hs8 : sf.length = 8 := by rw [hsf, mix_len]
  rw [← hlb, ← hsf] at HS ⊢
  obtain ⟨R, hR⟩ : ∃ R, R = ccells id ver lb sf := ⟨_, rfl⟩
  have hRl : R.length = 27 := by rw [hR, ccells_len id ver lb hs8]
  have hone : ∀ v ∈ R, v.oneCell' = true := by rw [hR]; exact ccells_one _ _ _ _
  rw [← hR]
  have HR := Lib.hid hR
  have HFL := Lib.hid hfl
  have HSL : Hid ((fcells sf).length = 24) := Lib.hid (by rw [fcells_len, hs8])
  have B0 := Blk.new w (ccells id ver lab f) 27
  obtain ⟨ca, hca⟩ : ∃ ca, ca = (ccells id ver lab f).toArray := ⟨_, rfl⟩
  rw [← hca] at B0 ⊢
  have B1 := Blk.new (w.alloc (.cells ca 27)) (ccells 0 0 0 zeros) 27
  have hw0 := ((Below.refl w.heap.size w).alloc (Nat.le_refl _) (.cells ca 27)).alloc (by simp) (.cells (ccells 0 0 0 zeros).toArray 27)
  replace B0 := B0.alloc (.cells (ccells 0 0 0 zeros).toArray 27)
  have hsz : ((w.alloc (.cells ca 27)).alloc (.cells (ccells 0 0 0 zeros).toArray 27)).heap.size = w.heap.size + 2 := by simp
  have hs1 : (w.alloc (.cells ca 27)).heap.size = w.heap.size + 1 := by simp
  rw [hs1] at B1
  generalize hW : (w.alloc (.cells ca 27)).alloc (.cells (ccells 0 0 0 zeros).toArray 27) = W at *
  have HW := Lib.hid hW
  have HB := Lib.hid hw0
  have HSZ := Lib.hid hsz
  have HF := Lib.hid hf
  have HS8 := Lib.hid hs8
  have HZ := Lib.hid zc27
  clear hlb hsf hfl hca hsz hs1 hW hw0 hf hs8 hR
  obtain ⟨q0, q1, q2⟩ := B0.card
  have RF := B0.fieldsC
  have hu8 := Try.underlying25
  have hu := Try.underlying27
  rw [← HW.out] at q2 RF
  rw [zc27] at q2 RF
  clear q0 q1
  go_enter Try.func20, Try.ntmps20
  go_wp2_with (first
    | (refine wpList_load_mid rfl 25 (.tmp 8) rfl w.heap.size 3 rfl (fcells f) _ RF hu8 rfl (by rw [HFL.out]; exact info_fields) ?_))
  rw [← zc27, HW.out]
  clear q2 RF
  refine (HS.out W).mono ?_
  rintro e w1 ⟨rfl, hb⟩
  have C0 := B0.later hb
  have C1 := B1.later hb
  have hbw : Below w.heap.size w w1 := HB.out.trans (hb.mono (by rw [HSZ.out]; omega))
  clear B0 B1 HS HSZ HB hb HW
  obtain ⟨q0, q1, q2⟩ := C0.card
  have fl := C0.frozen 2
  have D0 := C0.putLab lb
  have D1 := C1.setOther (b := w.heap.size) 2 (.int .u32 lb) (by omega)
  have DB := below_set (B := w.heap.size) (b := w.heap.size) (Nat.le_refl _) hbw 2 (.int .u32 lb)
  have E0 := D0.putFields HF.out HS8.out
  have E1 := Blk.setsOther (b := w.heap.size) (g := w.heap.size + 1) (by omega) (fcells sf) 3 D1
  have EB := below_sets (B := w.heap.size) (b := w.heap.size) (by omega) (fcells sf) 3 DB
  have T0 := D0.there 3 24 (by rw [ccells_len id ver lb HF.out]; omega)
  have hone8 : ∀ v ∈ fcells sf, v.oneCell' = true := fcells_one sf
  rw [← HR.out] at E0
  have RG := E0.wholeC
  have TH := E1.there 0 27 (by rw [ccells_len 0 0 0 zeros_len]; omega)
  have FIN := E1.whole (ds := R) (by rw [hRl, ccells_len 0 0 0 zeros_len])
  have FB := below_sets (B := w.heap.size) (b := w.heap.size + 1) (by omega) R 0 EB
  have HRL := Lib.hid hRl
  clear q0 q1 C0 C1 D0 D1 DB E0 E1 EB hRl hbw
  go_wp2_with (first
    | (refine wpList_store_mid rfl 25 (.tmp 15) (.tmp 13) rfl w.heap.size 3 (fcells sf).toArray rfl rfl (by simpa [HSL.out] using T0) (by simpa [HSL.out] using info_fields) (all_oneCell_toArray hone8) ?_)
    | (refine wpList_load_mid rfl 27 (.tmp 2) rfl w.heap.size 0 rfl R _ RG hu rfl (by rw [HRL.out]; exact info_card) ?_)
    | (refine wpList_store_mid rfl 27 (.tmp 4) (.tmp 16) rfl (w.heap.size + 1) 0 R.toArray rfl rfl (by simpa [HRL.out] using TH) (by simpa [HRL.out] using info_card) (all_oneCell_toArray hone) ?_))
  exact bodyPost_ret (v := .agg R.toArray) (results_blk (q := 4) rfl _ _ (w.heap.size + 1) R _ rfl FIN hu rfl (by rw [HRL.out]; exact info_card)) rfl ⟨rfl, FB⟩
end Go.Proofs.Ytgdidamjgaegkaa
