/- Cards: the patch of what a card has; what is in both of two masks, by the document: what each returns. -/
import Derived.Test.YtgdidamjgaegkaaCardG
import Derived.Test.YtgdidamjgaegkaaCardF
namespace Go.Proofs.Ytgdidamjgaegkaa
set_option linter.unusedVariables false
open Go Go.RowKit BitM

theorem Blk.putLabP {w : World} {g : Nat} {m lab : Int} {f : List V3} (h : Blk w g (pcells m lab f)) (l : Int) : Blk (w.setCell ⟨g, 1, none⟩ (.int .u32 l)) g (pcells m l f) := h.set 1 _
theorem Blk.putFieldsP {w : World} {g : Nat} {m lab : Int} {f h : List V3} (hB : Blk w g (pcells m lab f)) (hf : f.length = 8) (hh : h.length = 8) :
    Blk (w.setCells g 2 (fcells h)) g (pcells m lab h) := by
  have hl : (fcells h).length = 24 := by rw [fcells_len, hh]
  have h2 := hB.sets (fcells h) 2 (by rw [pcells_len m lab hf, hl]; omega)
  rw [hl, List.drop_eq_nil_of_le (by rw [pcells_len m lab hf]; omega), List.append_nil] at h2
  exact h2
theorem zp26 : (pcells 0 0 zeros).toArray = #[Value.int .u32 0, .int .u32 0, .int .i64 0, .int .i64 0, .string { data := #[] }, .int .i64 0, .int .i64 0, .string { data := #[] }, .int .i64 0, .int .i64 0, .string { data := #[] }, .int .i64 0, .int .i64 0, .string { data := #[] }, .int .i64 0, .int .i64 0, .string { data := #[] }, .int .i64 0, .int .i64 0, .string { data := #[] }, .int .i64 0, .int .i64 0, .string { data := #[] }, .int .i64 0, .int .i64 0, .string { data := #[] }] := rfl
theorem zpm (m : Int) : (pcells m 0 zeros).toArray = #[Value.int .u32 m, .int .u32 0, .int .i64 0, .int .i64 0, .string { data := #[] }, .int .i64 0, .int .i64 0, .string { data := #[] }, .int .i64 0, .int .i64 0, .string { data := #[] }, .int .i64 0, .int .i64 0, .string { data := #[] }, .int .i64 0, .int .i64 0, .string { data := #[] }, .int .i64 0, .int .i64 0, .string { data := #[] }, .int .i64 0, .int .i64 0, .string { data := #[] }, .int .i64 0, .int .i64 0, .string { data := #[] }] := rfl

set_option maxRecDepth 100000 in
set_option maxHeartbeats 3200000 in
theorem of_card (id ver lab : Int) (f : List V3) (x : BitVec 32) (w : World) (hf : f.length = 8) :
    Calls Try.prog 22 #[.agg (ccells id ver lab f).toArray, .int .u32 (x.toNat : Int)] w fun e w' =>
      e = .returned (.agg (pcells (x.toNat : Int) (if has x 8 then lab else 0) (mix (fun i => has x (i : Int)) f zeros)).toArray) ∧ Below w.heap.size w w' := by
  have HS := Lib.hid (fun wx : World => shown_any lab x f wx hf)
  have hfl : (fcells f).length = 24 := by rw [fcells_len, hf]
  obtain ⟨lb, hlb⟩ : ∃ lb : Int, lb = (if has x 8 then lab else 0) := ⟨_, rfl⟩
  obtain ⟨sf, hsf⟩ : ∃ sf, sf = mix (fun i => has x (i : Int)) f zeros := ⟨_, rfl⟩
  have hs8 : sf.length = 8 := by rw [hsf, mix_len]
  rw [← hlb, ← hsf] at HS ⊢
  obtain ⟨R, hR⟩ : ∃ R, R = pcells (x.toNat : Int) lb sf := ⟨_, rfl⟩
  have hRl : R.length = 26 := by rw [hR, pcells_len _ lb hs8]
  have hone : ∀ v ∈ R, v.oneCell' = true := by rw [hR]; exact pcells_one _ _ _
  rw [← hR]
  have HR := Lib.hid hR
  have HFL := Lib.hid hfl
  have HSL : Hid ((fcells sf).length = 24) := Lib.hid (by rw [fcells_len, hs8])
  have B0 := Blk.new w (ccells id ver lab f) 27
  obtain ⟨ca, hca⟩ : ∃ ca, ca = (ccells id ver lab f).toArray := ⟨_, rfl⟩
  rw [← hca] at B0 ⊢
  obtain ⟨za, hza⟩ : ∃ za, za = (pcells 0 0 zeros).toArray := ⟨_, rfl⟩
  have B1 := Blk.new (w.alloc (.cells ca 27)) (pcells 0 0 zeros) 29
  rw [← hza] at B1
  have B2 := Blk.new ((w.alloc (.cells ca 27)).alloc (.cells za 29)) (pcells 0 0 zeros) 29
  rw [← hza] at B2
  have hw0 := (((Below.refl w.heap.size w).alloc (Nat.le_refl _) (.cells ca 27)).alloc (by simp) (.cells za 29)).alloc (by simp; omega) (.cells za 29)
  replace B0 := (B0.alloc (.cells za 29)).alloc (.cells za 29)
  replace B1 := B1.alloc (.cells za 29)
  have hs1 : (w.alloc (.cells ca 27)).heap.size = w.heap.size + 1 := by simp
  have hs2 : ((w.alloc (.cells ca 27)).alloc (.cells za 29)).heap.size = w.heap.size + 2 := by simp
  have hsz : (((w.alloc (.cells ca 27)).alloc (.cells za 29)).alloc (.cells za 29)).heap.size = w.heap.size + 3 := by simp
  rw [hs1] at B1
  rw [hs2] at B2
  generalize hW : ((w.alloc (.cells ca 27)).alloc (.cells za 29)).alloc (.cells za 29) = W at *
  obtain ⟨zs, hzs⟩ : ∃ zs, zs = pcells (x.toNat : Int) 0 zeros := ⟨_, rfl⟩
  have hzl : zs.length = 26 := by rw [hzs]; exact pcells_len _ _ zeros_len
  have C2 := B2.whole (ds := zs) (by rw [hzl, pcells_len _ _ zeros_len])
  have C0 := Blk.setsOther (b := w.heap.size + 2) (g := w.heap.size) (by omega) zs 0 B0
  have C1 := Blk.setsOther (b := w.heap.size + 2) (g := w.heap.size + 1) (by omega) zs 0 B1
  have CB := below_sets (B := w.heap.size) (b := w.heap.size + 2) (by omega) zs 0 hw0
  have TH := B2.there 0 26 (by rw [pcells_len _ _ zeros_len]; omega)
  have hone0 : ∀ v ∈ zs, v.oneCell' = true := by rw [hzs]; exact pcells_one _ _ _
  have HZ0 := Lib.hid hzl
  have hsz2 : (W.setCells (w.heap.size + 2) 0 zs).heap.size = w.heap.size + 3 := by rw [size_sets]; exact hsz
  obtain ⟨W2, hW2⟩ : ∃ W2, W2 = W.setCells (w.heap.size + 2) 0 zs := ⟨_, rfl⟩
  rw [← hW2] at C0 C1 C2 CB hsz2
  rw [hzs] at C2
  rw [hza, zp26] at hW
  have HW := Lib.hid hW
  have HW2 := Lib.hid hW2
  have HB := Lib.hid CB
  have HSZ := Lib.hid hsz2
  have HF := Lib.hid hf
  have HS8 := Lib.hid hs8
  have HZS := Lib.hid hzs
  clear hzs hzl hlb hsf hfl hca hza hsz hs1 hs2 hW hW2 hw0 hf hs8 hR hsz2 CB B0 B1 B2 za
  obtain ⟨q0, q1, q2⟩ := C0.card
  have RF := C0.fieldsC
  have hu8 := Try.underlying25
  have hu := Try.underlying29
  clear q0 q1
  rw [HW2.out, ← HW.out] at q2 RF
  rw [← HW.out] at TH
  go_enter Try.func22, Try.ntmps22
  go_wp2_with (first
    | (refine wpList_store_mid rfl 29 (.tmp 5) (.tmp 7) rfl (w.heap.size + 2) 0 zs.toArray rfl (by rw [HZS.out]; rfl) (by simpa [HZ0.out] using TH) (by simpa [HZ0.out] using info_patch) (all_oneCell_toArray hone0) ?_)
    | (refine wpList_load_mid rfl 25 (.tmp 11) rfl w.heap.size 3 rfl (fcells f) _ RF hu8 rfl (by rw [HFL.out]; exact info_fields) ?_))
  rw [HW.out, ← HW2.out]
  clear q2 RF TH
  refine (HS.out W2).mono ?_
  rintro e w1 ⟨rfl, hb⟩
  have D0 := C0.later hb
  have D1 := C1.later hb
  have D2 := C2.later hb
  have hbw : Below w.heap.size w w1 := HB.out.trans (hb.mono (by rw [HSZ.out]; omega))
  clear C0 C1 C2 HS HSZ HB hb HW HW2
  obtain ⟨p0, p1⟩ := D2.patch
  have fl := D2.frozen 1
  have E2 := D2.putLabP lb
  have E1 := D1.setOther (b := w.heap.size + 2) 1 (.int .u32 lb) (by omega)
  have EB := below_set (B := w.heap.size) (b := w.heap.size + 2) (by omega) hbw 1 (.int .u32 lb)
  have T0 := E2.there 2 24 (by rw [pcells_len _ lb zeros_len]; omega)
  have G2 := E2.putFieldsP zeros_len HS8.out
  have G1 := Blk.setsOther (b := w.heap.size + 2) (g := w.heap.size + 1) (by omega) (fcells sf) 2 E1
  have GB := below_sets (B := w.heap.size) (b := w.heap.size + 2) (by omega) (fcells sf) 2 EB
  have hone8 : ∀ v ∈ fcells sf, v.oneCell' = true := fcells_one sf
  rw [← HR.out] at G2
  have RG := G2.wholeC
  have TH := G1.there 0 26 (by rw [pcells_len 0 0 zeros_len]; omega)
  have FIN := G1.whole (ds := R) (by rw [hRl, pcells_len 0 0 zeros_len])
  have FB := below_sets (B := w.heap.size) (b := w.heap.size + 1) (by omega) R 0 GB
  have HRL := Lib.hid hRl
  clear p0 D0 D1 D2 E1 E2 EB G1 G2 GB hRl hbw
  go_wp2_with (first
    | (refine wpList_store_mid rfl 25 (.tmp 18) (.tmp 16) rfl (w.heap.size + 2) 2 (fcells sf).toArray rfl rfl (by simpa [HSL.out] using T0) (by simpa [HSL.out] using info_fields) (all_oneCell_toArray hone8) ?_)
    | (refine wpList_load_mid rfl 29 (.tmp 5) rfl (w.heap.size + 2) 0 rfl R _ RG hu rfl (by rw [HRL.out]; exact info_patch) ?_)
    | (refine wpList_store_mid rfl 29 (.tmp 4) (.tmp 19) rfl (w.heap.size + 1) 0 R.toArray rfl rfl (by simpa [HRL.out] using TH) (by simpa [HRL.out] using info_patch) (all_oneCell_toArray hone) ?_))
  exact bodyPost_ret (v := .agg R.toArray) (results_blk (q := 4) rfl _ _ (w.heap.size + 1) R _ rfl FIN hu rfl (by rw [HRL.out]; exact info_patch)) rfl ⟨rfl, FB⟩
end Go.Proofs.Ytgdidamjgaegkaa
