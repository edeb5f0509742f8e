/- Cards: the patch of what a card has, by the document: what it returns. -/
import Derived.Test.YtfoppjgjljellaaCardG
import Derived.Test.YtfoppjgjljellaaAsksJA
import Derived.Test.YtfoppjgjljellaaCardI
/- Cards: a new card: what it returns. -/
namespace Go.Proofs.Ytfoppjgjljellaa
set_option linter.unusedVariables false
open Go Go.RowKit BitM

theorem zcid (id : Int) : (ccells id 0 0 zeros).toArray = #[Value.int .i64 id, .int .i64 0, .int .u32 0, .int .i64 0, .int .i64 0, .string { data := #[] }, .int .i64 0, .int .i64 0, .string { data := #[] }, .int .i64 0, .int .i64 0, .string { data := #[] }, .int .i64 0, .int .i64 0, .string { data := #[] }, .int .i64 0, .int .i64 0, .string { data := #[] }, .int .i64 0, .int .i64 0, .string { data := #[] }, .int .i64 0, .int .i64 0, .string { data := #[] }, .int .i64 0, .int .i64 0, .string { data := #[] }] := rfl

end Go.Proofs.Ytfoppjgjljellaa

/- Cards: the patch of what a card has, a new card, by the document: what each returns. -/
namespace Go.Proofs.Ytfoppjgjljellaa
set_option linter.unusedVariables false
open Go Go.RowKit BitM

end Go.Proofs.Ytfoppjgjljellaa

/- Cards: the patch of what a card has, by the document: what it returns. -/
namespace Go.Proofs.Ytfoppjgjljellaa
set_option linter.unusedVariables false
open Go Go.RowKit BitM

theorem eight {f : List V3} (h : f.length = 8) : ∃ v0 v1 v2 v3 v4 v5 v6 v7 : V3, f = [v0, v1, v2, v3, v4, v5, v6, v7] := by
  match f, h with
  | [v0, v1, v2, v3, v4, v5, v6, v7], _ => exact ⟨v0, v1, v2, v3, v4, v5, v6, v7, rfl⟩

set_option maxRecDepth 100000 in
set_option maxHeartbeats 3200000 in
theorem rof_any (id ver lab : Int) (f : List V3) (x : BitVec 32) (w : World) (hf : f.length = 8) :
    Calls Try.prog 20 #[.agg (ccells id ver lab f).toArray, .int .u32 (x.toNat : Int)] w fun e w' =>
      e = .returned (.agg (pcells (x.toNat : Int) (if has x 8 then lab else 0) (mix (fun i => has x (i : Int)) f zeros)).toArray) ∧ Below w.heap.size w w' := by
  have HS := Lib.hid (fun wx : World => rproject_any id ver lab f x wx hf)
  obtain ⟨lb, hlb⟩ : ∃ lb : Int, lb = (if has x 8 then lab else 0) := ⟨_, rfl⟩
  obtain ⟨sf, hsf⟩ : ∃ sf, sf = mix (fun i => has x (i : Int)) f zeros := ⟨_, rfl⟩
  have hs8 : sf.length = 8 := by rw [hsf, mix_len]
  rw [← hlb, ← hsf] at HS ⊢
  obtain ⟨R, hR⟩ : ∃ R, R = pcells (x.toNat : Int) lb sf := ⟨_, rfl⟩
  have hRl : R.length = 26 := by rw [hR, pcells_len _ _ hs8]
  have hone : ∀ v ∈ R, v.oneCell' = true := by rw [hR]; exact pcells_one _ _ _
  rw [← hR]
  have HR := Lib.hid hR
  have HRL := Lib.hid hRl
  obtain ⟨cs, hcs⟩ : ∃ cs, cs = ccells id ver lb sf := ⟨_, rfl⟩
  have hcl : cs.length = 27 := by rw [hcs, ccells_len _ _ _ hs8]
  have hone1 : ∀ v ∈ cs, v.oneCell' = true := by rw [hcs]; exact ccells_one _ _ _ _
  rw [← hcs] at HS
  obtain ⟨cc, hcc⟩ : ∃ cc, cc = ccells id ver lab f := ⟨_, rfl⟩
  have hccl : cc.length = 27 := by rw [hcc, ccells_len _ _ _ hf]
  rw [← hcc] at HS ⊢
  have HCC := Lib.hid hccl
  have HCL := Lib.hid hcl
  have B0 := Blk.new w cc 28
  have B1 := Blk.new (w.alloc (.cells cc.toArray 28)) (pcells 0 0 zeros) 46
  have hw0 := ((Below.refl w.heap.size w).alloc (Nat.le_refl _) (.cells cc.toArray 28)).alloc (by simp) (.cells (pcells 0 0 zeros).toArray 46)
  replace B0 := B0.alloc (.cells (pcells 0 0 zeros).toArray 46)
  have hs1 : (w.alloc (.cells cc.toArray 28)).heap.size = w.heap.size + 1 := by simp
  have hsz : ((w.alloc (.cells cc.toArray 28)).alloc (.cells (pcells 0 0 zeros).toArray 46)).heap.size = w.heap.size + 2 := by simp
  rw [hs1] at B1
  generalize hW : (w.alloc (.cells cc.toArray 28)).alloc (.cells (pcells 0 0 zeros).toArray 46) = W at *
  have RG := B0.wholeC
  rw [zp26] at hW
  have HW := Lib.hid hW
  have HB := Lib.hid hw0
  have HSZ := Lib.hid hsz
  have HS8 := Lib.hid hs8
  have HCS := Lib.hid hcs
  clear hlb hsf hs8 hR hRl hcs hcl hcc hccl hs1 hsz hW hw0 hf
  have hu := Try.underlying28
  have hup := Try.underlying46
  have hu8 := Try.underlying26
  rw [← HW.out] at RG
  go_enter Try.func20, Try.ntmps20
  go_wp2_with (first
    | (refine wpList_load_mid rfl 28 (.tmp 2) rfl w.heap.size 0 rfl cc _ RG hu rfl (by rw [HCC.out]; exact info_card) ?_))
  rw [HW.out]
  clear RG
  refine (HS.out W).mono ?_
  rintro e w1 ⟨rfl, hb⟩
  have C1 := (B1.later hb).alloc (.cells (ccells 0 0 0 zeros).toArray 28)
  have hbw : Below w.heap.size w w1 := HB.out.trans (hb.mono (by rw [HSZ.out]; omega))
  have hlt : w.heap.size + 1 < w1.heap.size := (B1.later hb).lt
  have A5 := Blk.new w1 (ccells 0 0 0 zeros) 28
  have TH := A5.there 0 27 (by rw [ccells_len 0 0 0 zeros_len]; omega)
  have E5 := A5.whole (ds := cs) (by rw [HCL.out, ccells_len 0 0 0 zeros_len])
  have E1 := Blk.setsOther (b := w1.heap.size) (g := w.heap.size + 1) (by omega) cs 0 C1
  have EB := below_sets (B := w.heap.size) (b := w1.heap.size) (by omega) cs 0 (hbw.alloc (by omega) (.cells (ccells 0 0 0 zeros).toArray 28))
  rw [HCS.out] at E5
  obtain ⟨q0, q1, q2⟩ := E5.card
  have RF := E5.fieldsC
  rw [← HCS.out] at q2 RF
  have T1 := E1.there 0 26 (by rw [pcells_len 0 0 zeros_len]; omega)
  have FIN := E1.whole (ds := R) (by rw [HRL.out, pcells_len 0 0 zeros_len])
  have FB := below_sets (B := w.heap.size) (b := w.heap.size + 1) (by omega) R 0 EB
  rw [zc27] at TH q2 RF T1 FIN FB
  have HFSL : Hid ((fcells sf).length = 24) := Lib.hid (by rw [fcells_len, HS8.out])
  have HFIN := Lib.hid FIN
  have HFB := Lib.hid FB
  clear q0 q1 B0 B1 HS HSZ HB hb hbw HW A5 C1 E5 E1 EB FIN FB
  go_wp2_with (first
    | (refine wpList_store_mid rfl 28 (.tmp 5) (.tmp 8) rfl w1.heap.size 0 cs.toArray rfl rfl (by simpa [HCL.out] using TH) (by simpa [HCL.out] using info_card) (all_oneCell_toArray hone1) ?_)
    | (refine wpList_load_mid rfl 26 (.tmp 12) rfl w1.heap.size 3 rfl (fcells sf) _ RF hu8 rfl (by rw [HFSL.out]; exact info_fields) ?_)
    | (refine wpList_exec (op := ⟨some 14, .build 46 _, _, _, _, _⟩) (by rfl) (.agg R.toArray) (by
        obtain ⟨v0, v1, v2, v3, v4, v5, v6, v7, hv⟩ := eight HS8.out
        rw [HR.out, hv]
        kernel_rfl) ?_)
    | (refine wpList_store_mid rfl 46 (.tmp 4) (.tmp 14) rfl (w.heap.size + 1) 0 R.toArray rfl rfl (by simpa [HRL.out] using T1) (by simpa [HRL.out] using info_patch) (all_oneCell_toArray hone) ?_))
  exact bodyPost_ret (v := .agg R.toArray) (results_blk (q := 4) rfl _ _ (w.heap.size + 1) R _ rfl HFIN.out hup rfl (by rw [HRL.out]; exact info_patch)) rfl ⟨rfl, HFB.out⟩
end Go.Proofs.Ytfoppjgjljellaa
