/- The functions that a filter is put together of: what each says. -/
import Derived.Test.YtfoppjgjljellaaEvA
import Derived.Test.YtfoppjgjljellaaInMid
import Derived.Shelf.Abstract
namespace Go.Proofs.Ytfoppjgjljellaa
set_option linter.unusedVariables false
set_option linter.unusedSimpArgs false
open Go Go.RowKit Go.Shelf BitM ValM

theorem info_crd : (Try.prog.info? 28).map (·.size) = some 27 := by kernel_rfl
set_option maxRecDepth 100000 in
set_option maxHeartbeats 3200000 in
theorem not_says (mm : Int) (w : World) (B : Nat) (v : Value) (k l : List Nd) (hc : w.cell? ⟨B, 0, none⟩ = some v) (h5 : w.cell? ⟨B, 5, none⟩ = none) (hs : Says mm w v k) (he : ∀ lab g fs, ev lab g fs l = !ev lab g fs k) :
    Says mm w (.func (.func 53) #[] #[.pointer (some ⟨B, 0, none⟩)]) l := by
  obtain ⟨f', caps', F, rfl, hen, hini, hF, hcall⟩ := hs
  refine ⟨53, _, fun k => k = B ∨ F k, rfl, enters_of Try.func53 (by kernel_rfl) rfl, by kernel_rfl, ?_, fun wx id ver lab g fs hk hf hsz => ?_⟩
  · rintro k (rfl | hg)
    · exact ⟨_, hc, rfl, .inr h5⟩
    · exact hF k hg
  have hlt : ∀ k, F k → k < wx.heap.size := fun k hg => by
    obtain ⟨u, hu, _⟩ := hF k hg
    exact World.block_lt_of_cell? _ ⟨k, 0, none⟩ ((World.cell?_of_block (a := ⟨k, 0, none⟩) (hk k (.inr hg))).trans hu)
  have hcB : wx.cell? ⟨B, 0, none⟩ = some (.func (.func f') #[] caps') := (World.cell?_of_block (a := ⟨B, 0, none⟩) (hk B (.inl rfl))).trans hc
  have hBx : B < wx.heap.size := World.block_lt_of_cell? _ ⟨B, 0, none⟩ hcB
  show Calls Try.prog 53 #[.agg (ccells id ver (lab.toNat : Int) fs).toArray, .int .u32 (g.toNat : Int), .pointer (some ⟨B, 0, none⟩)] wx _
  have hu := Try.underlying28
  rw [he]
  have B0 := Blk.new wx (ccells id ver (lab.toNat : Int) fs) 28
  have hb1 := (Below.refl wx.heap.size wx).alloc (Nat.le_refl _) (.cells (ccells id ver (lab.toNat : Int) fs).toArray 28)
  have HC := Lib.hid (fun (wy : World) (h : Below wx.heap.size wx wy) => hcall wy id ver lab g fs (fun j hj => (h.block j (hlt j hj)).trans (hk j (.inr hj))) hf hsz)
  have hcl := ccells_len id ver (lab.toNat : Int) hf
  obtain ⟨R, hR⟩ : ∃ R, R = ev lab g fs k := ⟨_, rfl⟩
  rw [← hR] at HC ⊢
  obtain ⟨cs, hcs⟩ : ∃ cs, cs = ccells id ver (lab.toNat : Int) fs := ⟨_, rfl⟩
  rw [← hcs] at B0 hb1 HC hcl ⊢
  have RC := B0.range 0 cs (by simp)
  have HL := Lib.hid hcl
  have hcx : (wx.alloc (.cells cs.toArray 28)).cell? ⟨B, 0, none⟩ = some (.func (.func f') #[] caps') := (hb1.cell (p := ⟨B, 0, none⟩) hBx).trans hcB
  obtain ⟨ca, hca⟩ : ∃ ca, ca = cs.toArray := ⟨_, rfl⟩
  rw [← hca] at RC hcx hb1 HC ⊢
  have HCA := Lib.hid hca
  clear hcs hcl hR hcall hc B0 hca hk hF hlt hcB hBx
  go_enter Try.func53, Try.ntmps53
  go_wp2_with (first
    | (refine wpList_load_mid rfl 28 (.tmp 3) rfl wx.heap.size 0 rfl cs _ RC hu rfl (by rw [HL.out]; exact info_crd) ?_
       rw [← HCA.out])
    | fail)
  refine (HC.out _ hb1).mono ?_
  rintro e w1 ⟨rfl, hb2⟩
  go_wp2_with fail
  go_ret
  exact ⟨rfl, hb1.trans (hb2.mono hb1.size)⟩
set_option maxRecDepth 100000 in
set_option maxHeartbeats 3200000 in
theorem and_says (mm : Int) (w : World) (B1 B2 : Nat) (v1 v2 : Value) (a b l : List Nd) (hc1 : w.cell? ⟨B1, 0, none⟩ = some v1) (hc2 : w.cell? ⟨B2, 0, none⟩ = some v2) (h51 : w.cell? ⟨B1, 5, none⟩ = none) (h52 : w.cell? ⟨B2, 5, none⟩ = none)
    (hs1 : Says mm w v1 a) (hs2 : Says mm w v2 b) (he : ∀ lab g fs, ev lab g fs l = (ev lab g fs a && ev lab g fs b)) :
    Says mm w (.func (.func 54) #[] #[.pointer (some ⟨B1, 0, none⟩), .pointer (some ⟨B2, 0, none⟩)]) l := by
  obtain ⟨f1, caps1, F1, rfl, hen1, hini1, hF1, hcall1⟩ := hs1
  obtain ⟨f2, caps2, F2, rfl, hen2, hini2, hF2, hcall2⟩ := hs2
  refine ⟨54, _, fun k => (k = B1 ∨ k = B2) ∨ (F1 k ∨ F2 k), rfl, enters_of Try.func54 (by kernel_rfl) rfl, by kernel_rfl, ?_, fun wx id ver lab g fs hk hf hsz => ?_⟩
  · rintro k ((rfl | rfl) | (hg | hg))
    · exact ⟨_, hc1, rfl, .inr h51⟩
    · exact ⟨_, hc2, rfl, .inr h52⟩
    · exact hF1 k hg
    · exact hF2 k hg
  have hlt : ∀ k, F1 k ∨ F2 k → k < wx.heap.size := fun k hg => by
    have : ∃ u, w.cell? ⟨k, 0, none⟩ = some u ∧ foot u = true ∧ (k = 0 ∨ w.cell? ⟨k, 5, none⟩ = none) := hg.elim (hF1 k) (hF2 k)
    obtain ⟨u, hu, _⟩ := this
    exact World.block_lt_of_cell? _ ⟨k, 0, none⟩ ((World.cell?_of_block (a := ⟨k, 0, none⟩) (hk k (.inr hg))).trans hu)
  have hcB1 : wx.cell? ⟨B1, 0, none⟩ = some (.func (.func f1) #[] caps1) := (World.cell?_of_block (a := ⟨B1, 0, none⟩) (hk B1 (.inl (.inl rfl)))).trans hc1
  have hcB2 : wx.cell? ⟨B2, 0, none⟩ = some (.func (.func f2) #[] caps2) := (World.cell?_of_block (a := ⟨B2, 0, none⟩) (hk B2 (.inl (.inr rfl)))).trans hc2
  have hBx1 : B1 < wx.heap.size := World.block_lt_of_cell? _ ⟨B1, 0, none⟩ hcB1
  have hBx2 : B2 < wx.heap.size := World.block_lt_of_cell? _ ⟨B2, 0, none⟩ hcB2
  show Calls Try.prog 54 #[.agg (ccells id ver (lab.toNat : Int) fs).toArray, .int .u32 (g.toNat : Int), .pointer (some ⟨B1, 0, none⟩), .pointer (some ⟨B2, 0, none⟩)] wx _
  have hu := Try.underlying28
  rw [he]
  have B0 := Blk.new wx (ccells id ver (lab.toNat : Int) fs) 28
  have hb1 := (Below.refl wx.heap.size wx).alloc (Nat.le_refl _) (.cells (ccells id ver (lab.toNat : Int) fs).toArray 28)
  have HC1 := Lib.hid (fun (wy : World) (h : Below wx.heap.size wx wy) => hcall1 wy id ver lab g fs (fun j hj => (h.block j (hlt j (.inl hj))).trans (hk j (.inr (.inl hj)))) hf hsz)
  have HC2 := Lib.hid (fun (wy : World) (h : Below wx.heap.size wx wy) => hcall2 wy id ver lab g fs (fun j hj => (h.block j (hlt j (.inr hj))).trans (hk j (.inr (.inr hj)))) hf hsz)
  have hcl := ccells_len id ver (lab.toNat : Int) hf
  obtain ⟨R1, hR1⟩ : ∃ R, R = ev lab g fs a := ⟨_, rfl⟩
  obtain ⟨R2, hR2⟩ : ∃ R, R = ev lab g fs b := ⟨_, rfl⟩
  rw [← hR1] at HC1 ⊢
  rw [← hR2] at HC2 ⊢
  obtain ⟨cs, hcs⟩ : ∃ cs, cs = ccells id ver (lab.toNat : Int) fs := ⟨_, rfl⟩
  rw [← hcs] at B0 hb1 HC1 HC2 hcl ⊢
  have RC := B0.range 0 cs (by simp)
  have HL := Lib.hid hcl
  have hcx1 : (wx.alloc (.cells cs.toArray 28)).cell? ⟨B1, 0, none⟩ = some (.func (.func f1) #[] caps1) := (hb1.cell (p := ⟨B1, 0, none⟩) hBx1).trans hcB1
  have hcx2 : ∀ wy, Below (wx.alloc (.cells cs.toArray 28)).heap.size (wx.alloc (.cells cs.toArray 28)) wy → wy.cell? ⟨B2, 0, none⟩ = some (.func (.func f2) #[] caps2) := fun wy hy => (hy.cell (p := ⟨B2, 0, none⟩) (Nat.lt_of_lt_of_le hBx2 hb1.size)).trans ((hb1.cell (p := ⟨B2, 0, none⟩) hBx2).trans hcB2)
  have B0' : ∀ wy, Below (wx.alloc (.cells cs.toArray 28)).heap.size (wx.alloc (.cells cs.toArray 28)) wy → Blk wy wx.heap.size cs := fun wy hy => B0.below hy (by simp)
  obtain ⟨ca, hca⟩ : ∃ ca, ca = cs.toArray := ⟨_, rfl⟩
  rw [← hca] at RC hcx1 hcx2 B0' hb1 HC1 HC2 ⊢
  have HCA := Lib.hid hca
  clear hcs hcl hR1 hR2 hcall1 hcall2 hc1 hc2 B0 hca hk hF1 hF2 hlt hcB1 hcB2 hBx1 hBx2
  go_enter Try.func54, Try.ntmps54
  go_wp2_with (first
    | (refine wpList_load_mid rfl 28 (.tmp 4) rfl wx.heap.size 0 rfl cs _ RC hu rfl (by rw [HL.out]; exact info_crd) ?_
       rw [← HCA.out])
    | fail)
  refine (HC1.out _ hb1).mono ?_
  rintro e w1 ⟨rfl, hb2⟩
  have hcy := hcx2 w1 hb2
  have RD := (B0' w1 hb2).range 0 cs (by simp)
  have hb3 := hb1.trans (hb2.mono hb1.size)
  clear hcx1 hcx2 B0' hb2 RC
  cases R1
  · go_wp2_with fail
    go_ret
    exact ⟨by simp, hb3⟩
  · go_wp2_with (first
      | (refine wpList_load_g (by rfl) 28 (.tmp 4) rfl wx.heap.size 0 rfl cs _ RD hu rfl (by rw [HL.out]; exact info_crd) ?_
         rw [← HCA.out])
      | fail)
    refine (HC2.out _ hb3).mono ?_
    rintro e w2 ⟨rfl, hb4⟩
    go_wp2_with fail
    go_ret
    exact ⟨by simp, hb3.trans (hb4.mono hb3.size)⟩
set_option maxRecDepth 100000 in
set_option maxHeartbeats 3200000 in
theorem or_says (mm : Int) (w : World) (B1 B2 : Nat) (v1 v2 : Value) (a b l : List Nd) (hc1 : w.cell? ⟨B1, 0, none⟩ = some v1) (hc2 : w.cell? ⟨B2, 0, none⟩ = some v2) (h51 : w.cell? ⟨B1, 5, none⟩ = none) (h52 : w.cell? ⟨B2, 5, none⟩ = none)
    (hs1 : Says mm w v1 a) (hs2 : Says mm w v2 b) (he : ∀ lab g fs, ev lab g fs l = (ev lab g fs a || ev lab g fs b)) :
    Says mm w (.func (.func 55) #[] #[.pointer (some ⟨B1, 0, none⟩), .pointer (some ⟨B2, 0, none⟩)]) l := by
  obtain ⟨f1, caps1, F1, rfl, hen1, hini1, hF1, hcall1⟩ := hs1
  obtain ⟨f2, caps2, F2, rfl, hen2, hini2, hF2, hcall2⟩ := hs2
  refine ⟨55, _, fun k => (k = B1 ∨ k = B2) ∨ (F1 k ∨ F2 k), rfl, enters_of Try.func55 (by kernel_rfl) rfl, by kernel_rfl, ?_, fun wx id ver lab g fs hk hf hsz => ?_⟩
  · rintro k ((rfl | rfl) | (hg | hg))
    · exact ⟨_, hc1, rfl, .inr h51⟩
    · exact ⟨_, hc2, rfl, .inr h52⟩
    · exact hF1 k hg
    · exact hF2 k hg
  have hlt : ∀ k, F1 k ∨ F2 k → k < wx.heap.size := fun k hg => by
    have : ∃ u, w.cell? ⟨k, 0, none⟩ = some u ∧ foot u = true ∧ (k = 0 ∨ w.cell? ⟨k, 5, none⟩ = none) := hg.elim (hF1 k) (hF2 k)
    obtain ⟨u, hu, _⟩ := this
    exact World.block_lt_of_cell? _ ⟨k, 0, none⟩ ((World.cell?_of_block (a := ⟨k, 0, none⟩) (hk k (.inr hg))).trans hu)
  have hcB1 : wx.cell? ⟨B1, 0, none⟩ = some (.func (.func f1) #[] caps1) := (World.cell?_of_block (a := ⟨B1, 0, none⟩) (hk B1 (.inl (.inl rfl)))).trans hc1
  have hcB2 : wx.cell? ⟨B2, 0, none⟩ = some (.func (.func f2) #[] caps2) := (World.cell?_of_block (a := ⟨B2, 0, none⟩) (hk B2 (.inl (.inr rfl)))).trans hc2
  have hBx1 : B1 < wx.heap.size := World.block_lt_of_cell? _ ⟨B1, 0, none⟩ hcB1
  have hBx2 : B2 < wx.heap.size := World.block_lt_of_cell? _ ⟨B2, 0, none⟩ hcB2
  show Calls Try.prog 55 #[.agg (ccells id ver (lab.toNat : Int) fs).toArray, .int .u32 (g.toNat : Int), .pointer (some ⟨B1, 0, none⟩), .pointer (some ⟨B2, 0, none⟩)] wx _
  have hu := Try.underlying28
  rw [he]
  have B0 := Blk.new wx (ccells id ver (lab.toNat : Int) fs) 28
  have hb1 := (Below.refl wx.heap.size wx).alloc (Nat.le_refl _) (.cells (ccells id ver (lab.toNat : Int) fs).toArray 28)
  have HC1 := Lib.hid (fun (wy : World) (h : Below wx.heap.size wx wy) => hcall1 wy id ver lab g fs (fun j hj => (h.block j (hlt j (.inl hj))).trans (hk j (.inr (.inl hj)))) hf hsz)
  have HC2 := Lib.hid (fun (wy : World) (h : Below wx.heap.size wx wy) => hcall2 wy id ver lab g fs (fun j hj => (h.block j (hlt j (.inr hj))).trans (hk j (.inr (.inr hj)))) hf hsz)
  have hcl := ccells_len id ver (lab.toNat : Int) hf
  obtain ⟨R1, hR1⟩ : ∃ R, R = ev lab g fs a := ⟨_, rfl⟩
  obtain ⟨R2, hR2⟩ : ∃ R, R = ev lab g fs b := ⟨_, rfl⟩
  rw [← hR1] at HC1 ⊢
  rw [← hR2] at HC2 ⊢
  obtain ⟨cs, hcs⟩ : ∃ cs, cs = ccells id ver (lab.toNat : Int) fs := ⟨_, rfl⟩
  rw [← hcs] at B0 hb1 HC1 HC2 hcl ⊢
  have RC := B0.range 0 cs (by simp)
  have HL := Lib.hid hcl
  have hcx1 : (wx.alloc (.cells cs.toArray 28)).cell? ⟨B1, 0, none⟩ = some (.func (.func f1) #[] caps1) := (hb1.cell (p := ⟨B1, 0, none⟩) hBx1).trans hcB1
  have hcx2 : ∀ wy, Below (wx.alloc (.cells cs.toArray 28)).heap.size (wx.alloc (.cells cs.toArray 28)) wy → wy.cell? ⟨B2, 0, none⟩ = some (.func (.func f2) #[] caps2) := fun wy hy => (hy.cell (p := ⟨B2, 0, none⟩) (Nat.lt_of_lt_of_le hBx2 hb1.size)).trans ((hb1.cell (p := ⟨B2, 0, none⟩) hBx2).trans hcB2)
  have B0' : ∀ wy, Below (wx.alloc (.cells cs.toArray 28)).heap.size (wx.alloc (.cells cs.toArray 28)) wy → Blk wy wx.heap.size cs := fun wy hy => B0.below hy (by simp)
  obtain ⟨ca, hca⟩ : ∃ ca, ca = cs.toArray := ⟨_, rfl⟩
  rw [← hca] at RC hcx1 hcx2 B0' hb1 HC1 HC2 ⊢
  have HCA := Lib.hid hca
  clear hcs hcl hR1 hR2 hcall1 hcall2 hc1 hc2 B0 hca hk hF1 hF2 hlt hcB1 hcB2 hBx1 hBx2
  go_enter Try.func55, Try.ntmps55
  go_wp2_with (first
    | (refine wpList_load_mid rfl 28 (.tmp 4) rfl wx.heap.size 0 rfl cs _ RC hu rfl (by rw [HL.out]; exact info_crd) ?_
       rw [← HCA.out])
    | fail)
  refine (HC1.out _ hb1).mono ?_
  rintro e w1 ⟨rfl, hb2⟩
  have hcy := hcx2 w1 hb2
  have RD := (B0' w1 hb2).range 0 cs (by simp)
  have hb3 := hb1.trans (hb2.mono hb1.size)
  clear hcx1 hcx2 B0' hb2 RC
  cases R1
  · go_wp2_with (first
      | (refine wpList_load_g (by rfl) 28 (.tmp 4) rfl wx.heap.size 0 rfl cs _ RD hu rfl (by rw [HL.out]; exact info_crd) ?_
         rw [← HCA.out])
      | fail)
    refine (HC2.out _ hb3).mono ?_
    rintro e w2 ⟨rfl, hb4⟩
    go_wp2_with fail
    go_ret
    exact ⟨by simp, hb3.trans (hb4.mono hb3.size)⟩
  · go_wp2_with fail
    go_ret
    exact ⟨by simp, hb3⟩
end Go.Proofs.Ytfoppjgjljellaa
