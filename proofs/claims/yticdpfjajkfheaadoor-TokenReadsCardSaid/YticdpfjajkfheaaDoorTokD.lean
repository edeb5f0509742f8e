/- Tokens: whether the layer is awake. -/
import Derived.Test.YticdpfjajkfheaaDoorTokC
namespace Go.Proofs.YticdpfjajkfheaaDoor
set_option linter.unusedVariables false
open Go Go.RowKit OctM

set_option maxRecDepth 100000 in
set_option maxHeartbeats 1600000 in
theorem tcheck_lit (w : World) : Calls Tryd.prog 17 #[.agg (tks 2 1 7 1073741824).toArray] w fun e w' => e = .returned (.bool true) ∧ Below w.heap.size w w' := by
  have B := Blk.new w (tks 2 1 7 1073741824) 42
  have hb := (Below.refl w.heap.size w).alloc (Nat.le_refl _) (.cells (tks 2 1 7 1073741824).toArray 42)
  obtain ⟨pc, hpc⟩ : ∃ pc, pc = tks 2 1 7 1073741824 := ⟨_, rfl⟩
  rw [← hpc] at B hb ⊢
  have p0 : (w.alloc (.cells pc.toArray 42)).cell? ⟨w.heap.size, 0, none⟩ = some (.int .i64 2) := B.cell (by rw [hpc]; rfl)
  have p1 : (w.alloc (.cells pc.toArray 42)).cell? ⟨w.heap.size, 1, none⟩ = some (.int .i64 1) := B.cell (by rw [hpc]; rfl)
  have p2 : (w.alloc (.cells pc.toArray 42)).cell? ⟨w.heap.size, 2, none⟩ = some (.int .i64 7) := B.cell (by rw [hpc]; rfl)
  have p3 : (w.alloc (.cells pc.toArray 42)).cell? ⟨w.heap.size, 3, none⟩ = some (.int .i64 1073741824) := B.cell (by rw [hpc]; rfl)
  clear hpc B
  go_enter Tryd.func17, Tryd.ntmps17
  go_wp2_with fail
  go_ret
  exact ⟨rfl, hb⟩

set_option maxRecDepth 100000 in
set_option maxHeartbeats 1600000 in
theorem twhole_lit (w : World) : Calls Tryd.prog 20 #[.agg (tks 2 1 7 1073741824).toArray] w fun e w' => e = .returned (.bool true) ∧ Below w.heap.size w w' := by
  have HC := Lib.hid (fun wx : World => tcheck_lit wx)
  have hu := Tryd.underlying42
  have B := Blk.new w (tks 2 1 7 1073741824) 42
  have hb := (Below.refl w.heap.size w).alloc (Nat.le_refl _) (.cells (tks 2 1 7 1073741824).toArray 42)
  obtain ⟨pc, hpc⟩ : ∃ pc, pc = tks 2 1 7 1073741824 := ⟨_, rfl⟩
  rw [← hpc] at B hb HC ⊢
  have hl : pc.length = 4 := by rw [hpc]; rfl
  have h3 : pc[3]? = some (.int .i64 1073741824) := by rw [hpc]; rfl
  have HL := Lib.hid hl
  have H3 := Lib.hid h3
  clear hpc hl h3
  have RG := B.range 0 pc (by rw [List.drop_zero, List.take_length])
  go_enter Tryd.func20, Tryd.ntmps20
  go_wp2_with (first
    | (refine wpList_load_mid rfl 42 (.tmp 1) rfl w.heap.size 0 rfl pc _ RG hu rfl (by rw [HL.out]; exact info_tok) ?_)
    | fail)
  refine (HC.out _).mono ?_
  rintro e w1 ⟨rfl, hb1⟩
  have p3 := (B.later hb1).cell H3.out
  have hbw := hb.trans (hb1.mono hb.size)
  clear RG B hb1 hb
  go_wp2_with fail
  go_ret
  exact ⟨rfl, hbw⟩

theorem itoa_2 : Lib.itoa 2 = [50] := by decide +kernel
theorem itoa_1 : Lib.itoa 1 = [49] := by decide +kernel
theorem itoa_7 : Lib.itoa 7 = [55] := by decide +kernel
theorem join_lit : Lib.join (([⟨#[50]⟩, ⟨#[49]⟩, ⟨#[55]⟩, ⟨#[97, 108, 108]⟩] : List ByteArray).map (·.data.toList)) [46] = [50, 46, 49, 46, 55, 46, 97, 108, 108] := by decide +kernel

set_option maxRecDepth 100000 in
set_option maxHeartbeats 3200000 in
theorem tshow_lit (w : World) (ht : Tab w) : Calls Tryd.prog 25 #[.agg (tks 2 1 7 1073741824).toArray] w fun e w' => e = .returned (.string ⟨#[50, 46, 49, 46, 55, 46, 97, 108, 108]⟩) ∧ Below w.heap.size w w' := by
  have HC := Lib.hid (fun wx : World => tcheck_lit wx)
  have HW := Lib.hid (fun wx : World => twhole_lit wx)
  have HT := Lib.hid (fun (n : Int) (wx : World) (h0 : -9223372036854775808 ≤ n) (h1 : n ≤ 9223372036854775807) (hb : Below w.heap.size w wx) => tens_any n wx h0 h1 (ht.later hb))
  have hu := Tryd.underlying42
  have B := Blk.new w (tks 2 1 7 1073741824) 42
  have hb := (Below.refl w.heap.size w).alloc (Nat.le_refl _) (.cells (tks 2 1 7 1073741824).toArray 42)
  have HT3 : Hid (∀ wx, Below w.heap.size w wx → Calls Tryd.prog 47 #[.int .i64 1073741824] wx fun e w' => e = .returned (.string (str (Lib.itoa 1073741824))) ∧ Below wx.heap.size wx w') := Lib.hid fun wx hb => HT.out 1073741824 wx (by omega) (by omega) hb
  have HT0 : Hid (∀ wx, Below w.heap.size w wx → Calls Tryd.prog 47 #[.int .i64 2] wx fun e w' => e = .returned (.string ⟨#[50]⟩) ∧ Below wx.heap.size wx w') := Lib.hid fun wx hb => by have h := HT.out 2 wx (by omega) (by omega) hb; rw [itoa_2] at h; exact h
  have HT1 : Hid (∀ wx, Below w.heap.size w wx → Calls Tryd.prog 47 #[.int .i64 1] wx fun e w' => e = .returned (.string ⟨#[49]⟩) ∧ Below wx.heap.size wx w') := Lib.hid fun wx hb => by have h := HT.out 1 wx (by omega) (by omega) hb; rw [itoa_1] at h; exact h
  have HT2 : Hid (∀ wx, Below w.heap.size w wx → Calls Tryd.prog 47 #[.int .i64 7] wx fun e w' => e = .returned (.string ⟨#[55]⟩) ∧ Below wx.heap.size wx w') := Lib.hid fun wx hb => by have h := HT.out 7 wx (by omega) (by omega) hb; rw [itoa_7] at h; exact h
  have HJ : Hid (∀ (g : Nat) (wx : World), Blk wx g [.string ⟨#[50]⟩, .string ⟨#[49]⟩, .string ⟨#[55]⟩, .string ⟨#[97, 108, 108]⟩] → Calls Tryd.prog 48 #[.slice (some ⟨g, 0, none⟩) 4 4, .string { data := #[46] }] wx fun e w' => e = .returned (.string ⟨#[50, 46, 49, 46, 55, 46, 97, 108, 108]⟩) ∧ Below wx.heap.size wx w') := Lib.hid fun g wx h => by
    have h2 := join4 g ⟨#[50]⟩ ⟨#[49]⟩ ⟨#[55]⟩ ⟨#[97, 108, 108]⟩ wx h (by rw [join_lit]; decide)
    rw [join_lit] at h2
    exact h2
  obtain ⟨u3, hu3⟩ : ∃ u, u = str (Lib.itoa 1073741824) := ⟨_, rfl⟩
  rw [← hu3] at HT3
  obtain ⟨pc, hpc⟩ : ∃ pc, pc = tks 2 1 7 1073741824 := ⟨_, rfl⟩
  rw [← hpc] at B hb HC HW ⊢
  have HL : Hid (pc.length = 4) := Lib.hid (by rw [hpc]; rfl)
  have HP : Hid (∀ wx, Blk wx w.heap.size pc → wx.cell? ⟨w.heap.size, 0, none⟩ = some (.int .i64 2) ∧ wx.cell? ⟨w.heap.size, 1, none⟩ = some (.int .i64 1) ∧ wx.cell? ⟨w.heap.size, 2, none⟩ = some (.int .i64 7) ∧ wx.cell? ⟨w.heap.size, 3, none⟩ = some (.int .i64 1073741824)) := Lib.hid fun wx h => by
    rw [hpc] at h
    exact ⟨h.cell rfl, h.cell rfl, h.cell rfl, h.cell rfl⟩
  clear hpc hu3 HT ht
  have RG := B.range 0 pc (by rw [List.drop_zero, List.take_length])
  go_enter Tryd.func25, Tryd.ntmps25
  go_wp2_with (first
    | (refine wpList_load_mid rfl 42 (.tmp 1) rfl w.heap.size 0 rfl pc _ RG hu rfl (by rw [HL.out]; exact info_tok) ?_)
    | fail)
  refine (HC.out _).mono ?_
  rintro e w1 ⟨rfl, hb1⟩
  replace B := B.later hb1
  replace hb := hb.trans (hb1.mono hb.size)
  obtain ⟨p0, p1, p2, p3⟩ := HP.out _ B
  clear RG hb1
  go_wp2_with fail
  refine (HT3.out _ hb).mono ?_
  rintro e w2 ⟨rfl, hb2⟩
  replace B := B.later hb2
  replace hb := hb.trans (hb2.mono hb.size)
  have RG := B.range 0 pc (by rw [List.drop_zero, List.take_length])
  clear p0 p1 p2 p3 hb2
  go_wp2_with (first
    | (refine wpList_load_mid rfl 42 (.tmp 1) rfl w.heap.size 0 rfl pc _ RG hu rfl (by rw [HL.out]; exact info_tok) ?_)
    | fail)
  refine (HW.out _).mono ?_
  rintro e w3 ⟨rfl, hb3⟩
  replace B := B.later hb3
  replace hb := hb.trans (hb3.mono hb.size)
  clear RG hb3
  have c0 : ∀ kk : LW w3, kk.val.cell? ⟨w.heap.size, 0, none⟩ = some (.int .i64 2) := fun kk => (HP.out _ (B.later kk.le)).1
  have c1 : ∀ kk : LW w3, kk.val.cell? ⟨w.heap.size, 1, none⟩ = some (.int .i64 1) := fun kk => (HP.out _ (B.later kk.le)).2.1
  have c2 : ∀ kk : LW w3, kk.val.cell? ⟨w.heap.size, 2, none⟩ = some (.int .i64 7) := fun kk => (HP.out _ (B.later kk.le)).2.2.1
  go_wp2_with fail
  refine wp_region_steady [(22, relStr4 ⟨#[50]⟩ ⟨#[49]⟩ ⟨#[55]⟩ ⟨#[97, 108, 108]⟩)] 24 (by kernel_rfl) (by kernel_rfl) (by kernel_rfl) (by rfl) ?_
  iterate 2 (refine wpG_quiet (by rfl) (by rfl) (by rfl) (fun K hK => ?_); go_big_quiet_op; refine hK _ ?_; clear hK K)
  refine wpG_call (by rfl) (by rfl) 47 #[.int .i64 2] (.string ⟨#[50]⟩) (by intro _; simp [go_sem]) (by kernel_rfl) (fun w1 hl => HT0.out w1 (hb.trans (hl.1.mono hb.size))) ?_
  simp only [Act.put, List.setIfInBounds_toArray, List.set_cons_zero, List.set_cons_succ]
  iterate 2 (refine wpG_quiet (by rfl) (by rfl) (by rfl) (fun K hK => ?_); go_big_quiet_op; refine hK _ ?_; clear hK K)
  refine wpG_call (by rfl) (by rfl) 47 #[.int .i64 1] (.string ⟨#[49]⟩) (by intro _; simp [go_sem]) (by kernel_rfl) (fun w1 hl => HT1.out w1 (hb.trans (hl.1.mono hb.size))) ?_
  simp only [Act.put, List.setIfInBounds_toArray, List.set_cons_zero, List.set_cons_succ]
  iterate 2 (refine wpG_quiet (by rfl) (by rfl) (by rfl) (fun K hK => ?_); go_big_quiet_op; refine hK _ ?_; clear hK K)
  refine wpG_call (by rfl) (by rfl) 47 #[.int .i64 7] (.string ⟨#[55]⟩) (by intro _; simp [go_sem]) (by kernel_rfl) (fun w1 hl => HT2.out w1 (hb.trans (hl.1.mono hb.size))) ?_
  simp only [Act.put, List.setIfInBounds_toArray, List.set_cons_zero, List.set_cons_succ]
  iterate 1 (refine wpG_quiet (by rfl) (by rfl) (by rfl) (fun K hK => ?_); go_big_quiet_op; refine hK _ ?_; clear hK K)
  refine wpG_open (relStr4 ⟨#[50]⟩ ⟨#[49]⟩ ⟨#[55]⟩ ⟨#[97, 108, 108]⟩) (by rfl) (by rfl) (fun w1 hl => str4_gives (.tmp 14) (.tmp 17) (.tmp 20) (.tmp 21) _ _ _ _ rfl rfl rfl rfl rfl w1) ?_
  rintro _ ⟨_, _, _, ⟨g2, rfl, _⟩⟩
  simp only [Act.put, List.setIfInBounds_toArray, List.set_cons_zero, List.set_cons_succ]
  refine wpG_call (by rfl) (by rfl) 48 #[.slice (some ⟨g2, 0, none⟩) 4 4, .string { data := #[46] }] (.string ⟨#[50, 46, 49, 46, 55, 46, 97, 108, 108]⟩) (by intro _; simp [go_sem]) (by kernel_rfl) (fun w1 hl => ?_) ?_
  · obtain ⟨g5, h5, r5⟩ := hl.2 22 _ (by simp [Op.operands, Call.operands]) rfl (by intro h; cases h)
    cases h5
    exact HJ.out g2 w1 r5
  simp only [Act.put, List.setIfInBounds_toArray, List.set_cons_zero, List.set_cons_succ]
  iterate 1 (refine wpG_quiet (by rfl) (by rfl) (by rfl) (fun K hK => ?_); go_big_quiet_op; refine hK _ ?_; clear hK K)
  refine wpG_nil fun w4 hl _ => ?_
  go_wp2_with fail
  go_ret
  exact ⟨rfl, hb.trans (hl.mono hb.size)⟩

set_option maxRecDepth 100000 in
set_option maxHeartbeats 1600000 in
theorem tok_awake (w : World) (ht : Tab w) : Calls Tryd.prog 14 #[] w fun e w' => e = .returned (.bool true) ∧ Below w.heap.size w w' := by
  have HS := Lib.hid (tshow_lit w ht)
  clear ht
  go_enter Tryd.func14, Tryd.ntmps14
  go_wp2_with fail
  refine HS.out.mono ?_
  rintro e w1 ⟨rfl, hb⟩
  go_wp2_with fail
  go_ret
  exact ⟨rfl, hb⟩
end Go.Proofs.YticdpfjajkfheaaDoor
