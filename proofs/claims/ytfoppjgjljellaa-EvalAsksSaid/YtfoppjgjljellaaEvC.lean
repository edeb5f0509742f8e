/- The functions of the leaves: what each says. -/
import Derived.Test.YtfoppjgjljellaaEvB
namespace Go.Proofs.Ytfoppjgjljellaa
set_option linter.unusedVariables false
set_option linter.unusedSimpArgs false
open Go Go.RowKit Go.Shelf BitM ValM

theorem Blk.fieldR {w : World} {g : Nat} {id ver lab : Int} {f : List V3} (h : Blk w g (ccells id ver lab f)) (i : Nat) (hi : i < f.length) : w.rangeAt g (3 + i * 3) (vcells f[i]) := by
  obtain ⟨a, b, c⟩ := Blk.field (pre := [.int .i64 id, .int .i64 ver, .int .u32 lab]) (o := 3) h i rfl hi
  intro j v hj
  match j with
  | 0 => simp only [vcells, List.getElem?_cons_zero, Option.some.injEq] at hj; subst hj; exact a
  | 1 => simp only [vcells, List.getElem?_cons_succ, List.getElem?_cons_zero, Option.some.injEq] at hj; subst hj; exact b
  | 2 => simp only [vcells, List.getElem?_cons_succ, List.getElem?_cons_zero, Option.some.injEq] at hj; subst hj; exact c
  | j + 3 => simp [vcells] at hj
set_option maxRecDepth 100000 in
set_option maxHeartbeats 3200000 in
theorem lab_says (mm : Int) (w : World) (B : Nat) (n : Nd) (l : List Nd) (hB : Blk w B (ncells n)) (he : ∀ lab g fs, ev lab g fs l = has lab n.2.1) :
    Says mm w (.func (.func 56) #[] #[.pointer (some ⟨B, 0, none⟩)]) l := by
  have hB0 := hB.cell (j := 0) rfl
  refine ⟨56, _, fun k => k = B ∨ False, rfl, enters_of Try.func56 (by kernel_rfl) rfl, by kernel_rfl, ?_, fun wx id ver lab g fs hkp hf hsz => ?_⟩
  · rintro k (rfl | hz)
    · exact ⟨_, hB0, rfl, .inr (hB.out5 (Nat.le_refl 5))⟩
    · exact hz.elim
  show Calls Try.prog 56 #[.agg (ccells id ver (lab.toNat : Int) fs).toArray, .int .u32 (g.toNat : Int), .pointer (some ⟨B, 0, none⟩)] wx _
  have hu := Try.underlying28
  have hun := Try.underlying57
  have huv := Try.underlying25
  rw [he]
  have hBl : B < wx.heap.size := World.block_lt_of_cell? _ ⟨B, 0, none⟩ ((World.cell?_of_block (a := ⟨B, 0, none⟩) (hkp B (.inl rfl))).trans hB0)
  replace hB : Blk wx B (ncells n) := by
    obtain ⟨t, ht⟩ := hB
    exact ⟨t, (hkp B (.inl rfl)).trans ht⟩
  clear hkp
  have B0 := Blk.new wx (ccells id ver (lab.toNat : Int) fs) 28
  have hb1 := (Below.refl wx.heap.size wx).alloc (Nat.le_refl _) (.cells (ccells id ver (lab.toNat : Int) fs).toArray 28)
  replace hB := hB.alloc (.cells (ccells id ver (lab.toNat : Int) fs).toArray 28)
  have c2 := B0.cell (j := 2) rfl
  have n1 := hB.cell (j := 1) rfl
  have HH := Lib.hid (fun wy => has_any lab n.2.1 wy)
  obtain ⟨R, hR⟩ : ∃ R, R = has lab n.2.1 := ⟨_, rfl⟩
  rw [← hR] at HH ⊢
  obtain ⟨cs, hcs⟩ : ∃ cs, cs = (ccells id ver (lab.toNat : Int) fs).toArray := ⟨_, rfl⟩
  rw [← hcs] at c2 n1 hb1 ⊢
  clear hcs hR B0 hB
  go_enter Try.func56, Try.ntmps56
  go_wp2_with fail
  refine (HH.out _).mono ?_
  rintro e w1 ⟨rfl, rfl⟩
  go_wp2_with fail
  go_ret
  exact ⟨rfl, hb1⟩
set_option maxRecDepth 100000 in
set_option maxHeartbeats 3200000 in
theorem grp_says (mm : Int) (w : World) (B : Nat) (n : Nd) (l : List Nd) (hB : Blk w B (ncells n)) (he : ∀ lab g fs, ev lab g fs l = has g n.2.1) :
    Says mm w (.func (.func 58) #[] #[.pointer (some ⟨B, 0, none⟩)]) l := by
  have hB0 := hB.cell (j := 0) rfl
  refine ⟨58, _, fun k => k = B ∨ False, rfl, enters_of Try.func58 (by kernel_rfl) rfl, by kernel_rfl, ?_, fun wx id ver lab g fs hkp hf hsz => ?_⟩
  · rintro k (rfl | hz)
    · exact ⟨_, hB0, rfl, .inr (hB.out5 (Nat.le_refl 5))⟩
    · exact hz.elim
  show Calls Try.prog 58 #[.agg (ccells id ver (lab.toNat : Int) fs).toArray, .int .u32 (g.toNat : Int), .pointer (some ⟨B, 0, none⟩)] wx _
  have hu := Try.underlying28
  have hun := Try.underlying57
  have huv := Try.underlying25
  rw [he]
  have hBl : B < wx.heap.size := World.block_lt_of_cell? _ ⟨B, 0, none⟩ ((World.cell?_of_block (a := ⟨B, 0, none⟩) (hkp B (.inl rfl))).trans hB0)
  replace hB : Blk wx B (ncells n) := by
    obtain ⟨t, ht⟩ := hB
    exact ⟨t, (hkp B (.inl rfl)).trans ht⟩
  clear hkp
  have B0 := Blk.new wx (ccells id ver (lab.toNat : Int) fs) 28
  have hb1 := (Below.refl wx.heap.size wx).alloc (Nat.le_refl _) (.cells (ccells id ver (lab.toNat : Int) fs).toArray 28)
  replace hB := hB.alloc (.cells (ccells id ver (lab.toNat : Int) fs).toArray 28)
  have n1 := hB.cell (j := 1) rfl
  have HH := Lib.hid (fun wy => has_any g n.2.1 wy)
  obtain ⟨R, hR⟩ : ∃ R, R = has g n.2.1 := ⟨_, rfl⟩
  rw [← hR] at HH ⊢
  obtain ⟨cs, hcs⟩ : ∃ cs, cs = (ccells id ver (lab.toNat : Int) fs).toArray := ⟨_, rfl⟩
  rw [← hcs] at n1 hb1 ⊢
  clear hcs hR B0 hB
  go_enter Try.func58, Try.ntmps58
  go_wp2_with fail
  refine (HH.out _).mono ?_
  rintro e w1 ⟨rfl, rfl⟩
  go_wp2_with fail
  go_ret
  exact ⟨rfl, hb1⟩
set_option maxRecDepth 100000 in
set_option maxHeartbeats 3200000 in
theorem con_says (mm : Int) (w : World) (B : Nat) (n : Nd) (l : List Nd) (hB : Blk w B (ncells n)) (he : ∀ lab g fs, ev lab g fs l = (n.1 == 1)) :
    Says mm w (.func (.func 59) #[] #[.pointer (some ⟨B, 0, none⟩)]) l := by
  have hB0 := hB.cell (j := 0) rfl
  refine ⟨59, _, fun k => k = B ∨ False, rfl, enters_of Try.func59 (by kernel_rfl) rfl, by kernel_rfl, ?_, fun wx id ver lab g fs hkp hf hsz => ?_⟩
  · rintro k (rfl | hz)
    · exact ⟨_, hB0, rfl, .inr (hB.out5 (Nat.le_refl 5))⟩
    · exact hz.elim
  show Calls Try.prog 59 #[.agg (ccells id ver (lab.toNat : Int) fs).toArray, .int .u32 (g.toNat : Int), .pointer (some ⟨B, 0, none⟩)] wx _
  have hu := Try.underlying28
  have hun := Try.underlying57
  have huv := Try.underlying25
  rw [he]
  have hBl : B < wx.heap.size := World.block_lt_of_cell? _ ⟨B, 0, none⟩ ((World.cell?_of_block (a := ⟨B, 0, none⟩) (hkp B (.inl rfl))).trans hB0)
  replace hB : Blk wx B (ncells n) := by
    obtain ⟨t, ht⟩ := hB
    exact ⟨t, (hkp B (.inl rfl)).trans ht⟩
  clear hkp
  have B0 := Blk.new wx (ccells id ver (lab.toNat : Int) fs) 28
  have hb1 := (Below.refl wx.heap.size wx).alloc (Nat.le_refl _) (.cells (ccells id ver (lab.toNat : Int) fs).toArray 28)
  replace hB := hB.alloc (.cells (ccells id ver (lab.toNat : Int) fs).toArray 28)
  have n0 := hB.cell (j := 0) rfl
  obtain ⟨cs, hcs⟩ : ∃ cs, cs = (ccells id ver (lab.toNat : Int) fs).toArray := ⟨_, rfl⟩
  rw [← hcs] at n0 hb1 ⊢
  clear hcs B0 hB
  go_enter Try.func59, Try.ntmps59
  go_wp2_with fail
  go_ret
  exact ⟨rfl, hb1⟩
set_option maxRecDepth 100000 in
set_option maxHeartbeats 3200000 in
theorem fld_says (mm : Int) (w : World) (B : Nat) (n : Nd) (l : List Nd) (hB : Blk w B (ncells n)) (hmm : MaxV mm w) (k : Nat) (hk : n.2.1 = (k : Int)) (hk8 : k < 8) (hns : n.2.2.2.2.size ≤ 1000) (he : ∀ lab g fs, ev lab g fs l = fieldv n (fs.getD k zv)) :
    Says mm w (.func (.func 60) #[] #[.pointer (some ⟨B, 0, none⟩)]) l := by
  have hB0 := hB.cell (j := 0) rfl
  refine ⟨60, _, fun k => k = B ∨ k = 0, rfl, enters_of Try.func60 (by kernel_rfl) rfl, by kernel_rfl, ?_, fun wx id ver lab g fs hkp hf hsz => ?_⟩
  · rintro k (rfl | hz)
    · exact ⟨_, hB0, rfl, .inr (hB.out5 (Nat.le_refl 5))⟩
    · subst hz; exact ⟨_, hmm, rfl, .inl rfl⟩
  show Calls Try.prog 60 #[.agg (ccells id ver (lab.toNat : Int) fs).toArray, .int .u32 (g.toNat : Int), .pointer (some ⟨B, 0, none⟩)] wx _
  have hu := Try.underlying28
  have hun := Try.underlying57
  have huv := Try.underlying25
  rw [he]
  have hBl : B < wx.heap.size := World.block_lt_of_cell? _ ⟨B, 0, none⟩ ((World.cell?_of_block (a := ⟨B, 0, none⟩) (hkp B (.inl rfl))).trans hB0)
  replace hB : Blk wx B (ncells n) := by
    obtain ⟨t, ht⟩ := hB
    exact ⟨t, (hkp B (.inl rfl)).trans ht⟩
  replace hmm : MaxV mm wx := (World.cell?_of_block (a := ⟨0, 0, none⟩) (hkp 0 (.inr rfl))).trans hmm
  have B0 := Blk.new wx (ccells id ver (lab.toNat : Int) fs) 28
  have hb1 := (Below.refl wx.heap.size wx).alloc (Nat.le_refl _) (.cells (ccells id ver (lab.toNat : Int) fs).toArray 28)
  replace hB := hB.alloc (.cells (ccells id ver (lab.toNat : Int) fs).toArray 28)
  have n1 := hB.cell (j := 1) rfl
  rw [hk] at n1
  have hkf : k < fs.length := by omega
  have ek : fs.getD k zv = fs[k] := by rw [List.getD_eq_getElem?_getD, List.getElem?_eq_getElem hkf]; rfl
  rw [ek]
  have hcl := ccells_len id ver (lab.toNat : Int) hf
  have HH := Lib.hid (fun wy (h : Below wx.heap.size wx wy) => field_any n fs[k] mm wy (hsz _ (List.getElem_mem hkf)) hns (hmm.later h))
  have hbw : Below wx.heap.size wx (wx.alloc (.cells (ccells id ver (lab.toNat : Int) fs).toArray 28)) := hb1
  have d8 : (k : Int) < 8 := by omega
  obtain ⟨u, hU⟩ : ∃ u, u = fs[k] := ⟨_, rfl⟩
  have BR : ∀ wy, Below (wx.alloc (.cells (ccells id ver (lab.toNat : Int) fs).toArray 28)).heap.size (wx.alloc (.cells (ccells id ver (lab.toNat : Int) fs).toArray 28)) wy → wy.rangeAt wx.heap.size (3 + k * 3) (vcells u) := fun wy hy => by rw [hU]; exact (B0.later hy).fieldR k hkf
  rw [← hU] at HH ⊢
  obtain ⟨R, hR⟩ : ∃ R, R = fieldv n u := ⟨_, rfl⟩
  rw [← hR] at HH ⊢
  obtain ⟨cs, hcs⟩ : ∃ cs, cs = (ccells id ver (lab.toNat : Int) fs).toArray := ⟨_, rfl⟩
  rw [← hcs] at n1 hb1 hbw BR hB ⊢
  have HB := Lib.hid hB
  have HBW := Lib.hid hbw
  have HSZ := Lib.hid hb1.size
  have HBR := Lib.hid BR
  clear hcs hR hU B0 hB ek hsz hf hkf hcl hbw BR
  go_enter Try.func60, Try.ntmps60
  go_wp2_with fail
  refine wp_region_steady [] 13 (by kernel_rfl) (by kernel_rfl) (by kernel_rfl) (by rfl) ?_
  refine wpG_run (by rfl) (by rfl) (.agg (ncells n).toArray) (fun w1 hl => exec_load 57 (.tmp 2) rfl B 0 rfl (ncells n) _ ((HB.out.later hl.1).range 0 (ncells n) rfl) hun rfl info_node) ?_
  simp only [Act.put, List.setIfInBounds_toArray, List.set_cons_zero, List.set_cons_succ]
  repeat (refine wpG_quiet (by rfl) (by rfl) (by rfl) (fun K hK => ?_); go_big_quiet_op; refine hK _ ?_; clear hK K)
  refine wpG_run (by rfl) (by rfl) (.int .i64 (k : Int)) (fun w1 hl => ?_) ?_
  · have n1 := (HB.out.later hl.1).cell (j := 1) rfl
    rw [hk] at n1
    simp [go_sem, n1]
  simp only [Act.put, List.setIfInBounds_toArray, List.set_cons_zero, List.set_cons_succ]
  repeat (refine wpG_quiet (by rfl) (by rfl) (by rfl) (fun K hK => ?_); go_big_quiet_op; refine hK _ ?_; clear hK K)
  refine wpG_run (by rfl) (by rfl) (.agg (vcells u).toArray) (fun w1 hl => exec_load 25 (.tmp 10) rfl wx.heap.size (3 + k * 3) rfl (vcells u) _ (HBR.out w1 hl.1) huv rfl info_val) ?_
  simp only [Act.put, List.setIfInBounds_toArray, List.set_cons_zero, List.set_cons_succ]
  refine wpG_call (by rfl) (by rfl) 61 #[.agg (ncells n).toArray, .agg (vcells u).toArray] (.bool R) (by intro _; simp [go_sem]) (by kernel_rfl) (fun w1 hl => HH.out w1 (HBW.out.trans (hl.1.mono HBW.out.size))) ?_
  simp only [Act.put, List.setIfInBounds_toArray, List.set_cons_zero, List.set_cons_succ]
  repeat (refine wpG_quiet (by rfl) (by rfl) (by rfl) (fun K hK => ?_); go_big_quiet_op; refine hK _ ?_; clear hK K)
  refine wpG_nil fun w1 hl hs => ?_
  go_wp2_with fail
  go_ret
  exact ⟨rfl, hb1.trans (hl.mono HSZ.out)⟩
end Go.Proofs.Ytfoppjgjljellaa
