/- Tokens: whole; their texts. -/
import Derived.Test.YticdpfjajkfheaaDoorM4
import Derived.Lib.ItoaLen
import Derived.WalkKit
import Derived.ProofKit
import Derived.Test.YticdpfjajkfheaaDoorM1
import Derived.Test.YticdpfjajkfheaaDoorM3
import Derived.WalkLawsBesides
import Derived.Lib.IndexMore
import Derived.StillTail
import Derived.Lib.Join
import Derived.Lib.ItoaNum
import Derived.Lib.SplitLaws
import Derived.RangeFuncNested
import Derived.RangeFuncBound
import Derived.RangeFuncCalls
import Derived.RangeFuncLeaves
import Derived.RangeFuncBox
import Derived.Shelf.Abstract
import Derived.Shelf.RegionOpen
import Derived.OwnWalkIn
import Derived.TacticsInMore
import Derived.LoopNIn
import Derived.LoopIn
namespace Go.Proofs.YticdpfjajkfheaaDoor
set_option linter.unusedVariables false
open Go Go.RowKit OctM

set_option maxRecDepth 100000 in
set_option maxHeartbeats 1600000 in
theorem twhole_any (d p s c : Int) (w : World) : Calls Tryd.prog 20 #[.agg (tks d p s c).toArray] w fun e w' => e = .returned (.bool (tchk d p s c && (c == 1073741824))) ∧ Below w.heap.size w w' := by
  have HC := Lib.hid (fun wx : World => tcheck_any d p s c wx)
  have hu := Tryd.underlying42
  have B := Blk.new w (tks d p s c) 42
  have hb := (Below.refl w.heap.size w).alloc (Nat.le_refl _) (.cells (tks d p s c).toArray 42)
  obtain ⟨ok, hok⟩ : ∃ z, z = tchk d p s c := ⟨_, rfl⟩
  rw [← hok] at HC ⊢
  obtain ⟨pc, hpc⟩ : ∃ pc, pc = tks d p s c := ⟨_, rfl⟩
  rw [← hpc] at B hb HC ⊢
  have hl : pc.length = 4 := by rw [hpc]; rfl
  have h3 : pc[3]? = some (.int .i64 c) := by rw [hpc]; rfl
  have HL := Lib.hid hl
  have H3 := Lib.hid h3
  clear hpc hl h3 hok
  have RG := B.range 0 pc (by rw [List.drop_zero, List.take_length])
  obtain ⟨q, hq⟩ : ∃ q, q = (c == 1073741824) := ⟨_, rfl⟩
  have kq : (c == 1073741824) = q := hq.symm
  rw [← hq]
  clear hq
  cases ok
  all_goals
    go_enter Tryd.func20, Tryd.ntmps20
    go_wp2_with (first
      | (refine wpList_load_mid rfl 42 (.tmp 1) rfl w.heap.size 0 rfl pc _ RG hu rfl (by rw [HL.out]; exact info_tok) ?_)
      | fail)
    refine (HC.out _).mono ?_
    rintro e w1 ⟨rfl, hb1⟩
    have p3 := (B.later hb1).cell H3.out
    have hbw := hb.trans (hb1.mono hb.size)
    clear RG B hb1 hb
    go_wp2_with fail
    go_ret
    exact ⟨rfl, hbw⟩

/-- A token's text. -/
def tsh (d p s c : Int) : List UInt8 := if tchk d p s c = false then [] else Lib.join [Lib.itoa d, Lib.itoa p, Lib.itoa s, if c = 1073741824 then [97, 108, 108] else Lib.itoa c] [46]
theorem join_four (x y z u : List UInt8) : Lib.join [x, y, z, u] [46] = x ++ ([46] ++ (y ++ ([46] ++ (z ++ ([46] ++ u))))) := by
  simp [Lib.join, List.intercalate, List.intersperse]
theorem tsh_len (d p s c : Int) (h : tchk d p s c = true) : (Lib.join [Lib.itoa d, Lib.itoa p, Lib.itoa s, if c = 1073741824 then [97, 108, 108] else Lib.itoa c] [46]).length ≤ 90 := by
  have h2 := of_decide_eq_true h
  have e1 := Lib.itoa_length_le d (by omega) (by omega)
  have e2 := Lib.itoa_length_le p (by omega) (by omega)
  have e3 := Lib.itoa_length_le s (by omega) (by omega)
  have e4 : (if c = 1073741824 then [97, 108, 108] else Lib.itoa c).length ≤ 21 := by
    split
    · simp
    · exact Lib.itoa_length_le c (by omega) (by omega)
  rw [join_four]
  simp only [List.length_append, List.length_cons, List.length_nil]
  omega

set_option maxRecDepth 100000 in
set_option maxHeartbeats 3200000 in
theorem tshow_any (d p s c : Int) (w : World) (ht : Tab w) : Calls Tryd.prog 25 #[.agg (tks d p s c).toArray] w fun e w' => e = .returned (.string (str (tsh d p s c))) ∧ Below w.heap.size w w' := by
  have HC := Lib.hid (fun wx : World => tcheck_any d p s c wx)
  have HW := Lib.hid (fun wx : World => twhole_any d p s c wx)
  have hu := Tryd.underlying42
  have B := Blk.new w (tks d p s c) 42
  have hb := (Below.refl w.heap.size w).alloc (Nat.le_refl _) (.cells (tks d p s c).toArray 42)
  have HP : Hid (∀ wx, Blk wx w.heap.size (tks d p s c) → wx.cell? ⟨w.heap.size, 0, none⟩ = some (.int .i64 d) ∧ wx.cell? ⟨w.heap.size, 1, none⟩ = some (.int .i64 p) ∧ wx.cell? ⟨w.heap.size, 2, none⟩ = some (.int .i64 s) ∧ wx.cell? ⟨w.heap.size, 3, none⟩ = some (.int .i64 c)) := Lib.hid fun wx h => ⟨h.cell rfl, h.cell rfl, h.cell rfl, h.cell rfl⟩
  obtain ⟨ok, hok⟩ : ∃ z, z = tchk d p s c := ⟨_, rfl⟩
  rw [← hok] at HC HW
  obtain ⟨R, hR⟩ : ∃ z, z = str (tsh d p s c) := ⟨_, rfl⟩
  rw [← hR]
  cases ok
  · have HR : Hid (R = ⟨#[]⟩) := Lib.hid (by rw [hR]; unfold tsh; rw [if_pos hok.symm]; rfl)
    obtain ⟨pc, hpc⟩ : ∃ pc, pc = tks d p s c := ⟨_, rfl⟩
    rw [← hpc] at B hb HC ⊢
    have HL : Hid (pc.length = 4) := Lib.hid (by rw [hpc]; rfl)
    clear hpc hok hR HW HP
    have RG := B.range 0 pc (by rw [List.drop_zero, List.take_length])
    go_enter Tryd.func25, Tryd.ntmps25
    go_wp2_with (first
      | (refine wpList_load_mid rfl 42 (.tmp 1) rfl w.heap.size 0 rfl pc _ RG hu rfl (by rw [HL.out]; exact info_tok) ?_)
      | fail)
    refine (HC.out _).mono ?_
    rintro e w1 ⟨rfl, hb1⟩
    clear RG
    go_wp2_with fail
    go_ret
    exact ⟨by rw [HR.out]; rfl, hb.trans (hb1.mono hb.size)⟩
  · have h2 := of_decide_eq_true hok.symm
    have HT3 : Hid (∀ wx, Below w.heap.size w wx → Calls Tryd.prog 47 #[.int .i64 c] wx fun e w' => e = .returned (.string (str (Lib.itoa c))) ∧ Below wx.heap.size wx w') := Lib.hid fun wx hb => tens_any c wx (by omega) (by omega) (ht.later hb)
    have HT0 : Hid (∀ wx, Below w.heap.size w wx → Calls Tryd.prog 47 #[.int .i64 d] wx fun e w' => e = .returned (.string (str (Lib.itoa d))) ∧ Below wx.heap.size wx w') := Lib.hid fun wx hb => tens_any d wx (by omega) (by omega) (ht.later hb)
    have HT1 : Hid (∀ wx, Below w.heap.size w wx → Calls Tryd.prog 47 #[.int .i64 p] wx fun e w' => e = .returned (.string (str (Lib.itoa p))) ∧ Below wx.heap.size wx w') := Lib.hid fun wx hb => tens_any p wx (by omega) (by omega) (ht.later hb)
    have HT2 : Hid (∀ wx, Below w.heap.size w wx → Calls Tryd.prog 47 #[.int .i64 s] wx fun e w' => e = .returned (.string (str (Lib.itoa s))) ∧ Below wx.heap.size wx w') := Lib.hid fun wx hb => tens_any s wx (by omega) (by omega) (ht.later hb)
    obtain ⟨u4, hu4⟩ : ∃ z : List UInt8, z = (if c = 1073741824 then [97, 108, 108] else Lib.itoa c) := ⟨_, rfl⟩
    have hlen := tsh_len d p s c hok.symm
    rw [← hu4] at hlen
    have hRR : R = str (Lib.join [Lib.itoa d, Lib.itoa p, Lib.itoa s, u4] [46]) := by rw [hR]; unfold tsh; rw [if_neg (by rw [← hok]; simp), hu4]
    have HJ : Hid (∀ (g : Nat) (wx : World), Blk wx g [.string (str (Lib.itoa d)), .string (str (Lib.itoa p)), .string (str (Lib.itoa s)), .string (str u4)] → Calls Tryd.prog 48 #[.slice (some ⟨g, 0, none⟩) 4 4, .string { data := #[46] }] wx fun e w' => e = .returned (.string R) ∧ Below wx.heap.size wx w') := Lib.hid fun g wx h => by
      have e0 : ([str (Lib.itoa d), str (Lib.itoa p), str (Lib.itoa s), str u4].map (·.data.toList)) = [Lib.itoa d, Lib.itoa p, Lib.itoa s, u4] := rfl
      have h2 := join4 g (str (Lib.itoa d)) (str (Lib.itoa p)) (str (Lib.itoa s)) (str u4) wx h (by rw [e0]; omega)
      rw [e0, ← hRR] at h2
      exact h2
    obtain ⟨sd, hsd⟩ : ∃ z, z = str (Lib.itoa d) := ⟨_, rfl⟩
    obtain ⟨sp, hsp⟩ : ∃ z, z = str (Lib.itoa p) := ⟨_, rfl⟩
    obtain ⟨st, hst⟩ : ∃ z, z = str (Lib.itoa s) := ⟨_, rfl⟩
    obtain ⟨sc, hsc⟩ : ∃ z, z = str (Lib.itoa c) := ⟨_, rfl⟩
    obtain ⟨s4, hs4⟩ : ∃ z, z = str u4 := ⟨_, rfl⟩
    rw [← hsd] at HT0 HJ
    rw [← hsp] at HT1 HJ
    rw [← hst] at HT2 HJ
    rw [← hsc] at HT3
    rw [← hs4] at HJ
    obtain ⟨q, hq⟩ : ∃ q, q = (c == 1073741824) := ⟨_, rfl⟩
    rw [← hq] at HW
    have H4 : Hid ((q = true → s4 = ⟨#[97, 108, 108]⟩) ∧ (q = false → s4 = sc)) := Lib.hid ⟨fun h => by rw [hs4, hu4, if_pos (by rw [h] at hq; simpa using hq.symm)]; rfl, fun h => by rw [hs4, hu4, if_neg (by rw [h] at hq; simpa using hq.symm), hsc]⟩
    obtain ⟨pc, hpc⟩ : ∃ pc, pc = tks d p s c := ⟨_, rfl⟩
    rw [← hpc] at B hb HC HW HP ⊢
    have HL : Hid (pc.length = 4) := Lib.hid (by rw [hpc]; rfl)
    clear hpc hR hRR hlen hok h2 hu4 hsd hsp hst hsc hs4 hq ht
    have RG := B.range 0 pc (by rw [List.drop_zero, List.take_length])
    have HJt : Hid (q = true → ∀ (g : Nat) (wx : World), Blk wx g [.string sd, .string sp, .string st, .string ⟨#[97, 108, 108]⟩] → Calls Tryd.prog 48 #[.slice (some ⟨g, 0, none⟩) 4 4, .string { data := #[46] }] wx fun e w' => e = .returned (.string R) ∧ Below wx.heap.size wx w') := Lib.hid fun h g wx hB => HJ.out g wx (by rw [H4.out.1 h]; exact hB)
    have HJf : Hid (q = false → ∀ (g : Nat) (wx : World), Blk wx g [.string sd, .string sp, .string st, .string sc] → Calls Tryd.prog 48 #[.slice (some ⟨g, 0, none⟩) 4 4, .string { data := #[46] }] wx fun e w' => e = .returned (.string R) ∧ Below wx.heap.size wx w') := Lib.hid fun h g wx hB => HJ.out g wx (by rw [H4.out.2 h]; exact hB)
    clear H4 HJ
    cases q
    · go_enter Tryd.func25, Tryd.ntmps25
      go_wp2_with (first
        | (refine wpList_load_mid rfl 42 (.tmp 1) rfl w.heap.size 0 rfl pc _ RG hu rfl (by rw [HL.out]; exact info_tok) ?_)
        | fail)
      refine (HC.out _).mono ?_
      rintro e w1 ⟨rfl, hb1⟩
      replace B := B.later hb1
      replace hb := hb.trans (hb1.mono hb.size)
      obtain ⟨p0, p1, p2, p3⟩ := HP.out _ B
      clear RG hb1
      go_wp2_with fail
      refine (HT3.out _ hb).mono ?_
      rintro e w2 ⟨rfl, hb2⟩
      replace B := B.later hb2
      replace hb := hb.trans (hb2.mono hb.size)
      have RG := B.range 0 pc (by rw [List.drop_zero, List.take_length])
      clear p0 p1 p2 p3 hb2
      go_wp2_with (first
        | (refine wpList_load_mid rfl 42 (.tmp 1) rfl w.heap.size 0 rfl pc _ RG hu rfl (by rw [HL.out]; exact info_tok) ?_)
        | fail)
      refine (HW.out _).mono ?_
      rintro e w3 ⟨rfl, hb3⟩
      replace B := B.later hb3
      replace hb := hb.trans (hb3.mono hb.size)
      clear RG hb3
      have c0 : ∀ kk : LW w3, kk.val.cell? ⟨w.heap.size, 0, none⟩ = some (.int .i64 d) := fun kk => (HP.out _ (B.later kk.le)).1
      have c1 : ∀ kk : LW w3, kk.val.cell? ⟨w.heap.size, 1, none⟩ = some (.int .i64 p) := fun kk => (HP.out _ (B.later kk.le)).2.1
      have c2 : ∀ kk : LW w3, kk.val.cell? ⟨w.heap.size, 2, none⟩ = some (.int .i64 s) := fun kk => (HP.out _ (B.later kk.le)).2.2.1
      go_wp2_with fail
      refine wp_region_steady [(22, relStr4 sd sp st sc)] 24 (by kernel_rfl) (by kernel_rfl) (by kernel_rfl) (by rfl) ?_
      iterate 2 (refine wpG_quiet (by rfl) (by rfl) (by rfl) (fun K hK => ?_); go_big_quiet_op; refine hK _ ?_; clear hK K)
      refine wpG_call (by rfl) (by rfl) 47 #[.int .i64 d] (.string sd) (by intro _; simp [go_sem]) (by kernel_rfl) (fun w1 hl => HT0.out w1 (hb.trans (hl.1.mono hb.size))) ?_
      simp only [Act.put, List.setIfInBounds_toArray, List.set_cons_zero, List.set_cons_succ]
      iterate 2 (refine wpG_quiet (by rfl) (by rfl) (by rfl) (fun K hK => ?_); go_big_quiet_op; refine hK _ ?_; clear hK K)
      refine wpG_call (by rfl) (by rfl) 47 #[.int .i64 p] (.string sp) (by intro _; simp [go_sem]) (by kernel_rfl) (fun w1 hl => HT1.out w1 (hb.trans (hl.1.mono hb.size))) ?_
      simp only [Act.put, List.setIfInBounds_toArray, List.set_cons_zero, List.set_cons_succ]
      iterate 2 (refine wpG_quiet (by rfl) (by rfl) (by rfl) (fun K hK => ?_); go_big_quiet_op; refine hK _ ?_; clear hK K)
      refine wpG_call (by rfl) (by rfl) 47 #[.int .i64 s] (.string st) (by intro _; simp [go_sem]) (by kernel_rfl) (fun w1 hl => HT2.out w1 (hb.trans (hl.1.mono hb.size))) ?_
      simp only [Act.put, List.setIfInBounds_toArray, List.set_cons_zero, List.set_cons_succ]
      iterate 1 (refine wpG_quiet (by rfl) (by rfl) (by rfl) (fun K hK => ?_); go_big_quiet_op; refine hK _ ?_; clear hK K)
      refine wpG_open (relStr4 sd sp st sc) (by rfl) (by rfl) (fun w1 hl => str4_gives (.tmp 14) (.tmp 17) (.tmp 20) (.tmp 21) _ _ _ _ rfl rfl rfl rfl rfl w1) ?_
      rintro _ ⟨_, _, _, ⟨g2, rfl, _⟩⟩
      simp only [Act.put, List.setIfInBounds_toArray, List.set_cons_zero, List.set_cons_succ]
      refine wpG_call (by rfl) (by rfl) 48 #[.slice (some ⟨g2, 0, none⟩) 4 4, .string { data := #[46] }] (.string R) (by intro _; simp [go_sem]) (by kernel_rfl) (fun w1 hl => ?_) ?_
      · obtain ⟨g5, h5, r5⟩ := hl.2 22 _ (by simp [Op.operands, Call.operands]) rfl (by intro h; cases h)
        cases h5
        exact HJf.out (by first | rfl | trivial) g2 w1 r5
      simp only [Act.put, List.setIfInBounds_toArray, List.set_cons_zero, List.set_cons_succ]
      iterate 1 (refine wpG_quiet (by rfl) (by rfl) (by rfl) (fun K hK => ?_); go_big_quiet_op; refine hK _ ?_; clear hK K)
      refine wpG_nil fun w4 hl _ => ?_
      go_wp2_with fail
      go_ret
      exact ⟨rfl, hb.trans (hl.mono hb.size)⟩
    · go_enter Tryd.func25, Tryd.ntmps25
      go_wp2_with (first
        | (refine wpList_load_mid rfl 42 (.tmp 1) rfl w.heap.size 0 rfl pc _ RG hu rfl (by rw [HL.out]; exact info_tok) ?_)
        | fail)
      refine (HC.out _).mono ?_
      rintro e w1 ⟨rfl, hb1⟩
      replace B := B.later hb1
      replace hb := hb.trans (hb1.mono hb.size)
      obtain ⟨p0, p1, p2, p3⟩ := HP.out _ B
      clear RG hb1
      go_wp2_with fail
      refine (HT3.out _ hb).mono ?_
      rintro e w2 ⟨rfl, hb2⟩
      replace B := B.later hb2
      replace hb := hb.trans (hb2.mono hb.size)
      have RG := B.range 0 pc (by rw [List.drop_zero, List.take_length])
      clear p0 p1 p2 p3 hb2
      go_wp2_with (first
        | (refine wpList_load_mid rfl 42 (.tmp 1) rfl w.heap.size 0 rfl pc _ RG hu rfl (by rw [HL.out]; exact info_tok) ?_)
        | fail)
      refine (HW.out _).mono ?_
      rintro e w3 ⟨rfl, hb3⟩
      replace B := B.later hb3
      replace hb := hb.trans (hb3.mono hb.size)
      clear RG hb3
      have c0 : ∀ kk : LW w3, kk.val.cell? ⟨w.heap.size, 0, none⟩ = some (.int .i64 d) := fun kk => (HP.out _ (B.later kk.le)).1
      have c1 : ∀ kk : LW w3, kk.val.cell? ⟨w.heap.size, 1, none⟩ = some (.int .i64 p) := fun kk => (HP.out _ (B.later kk.le)).2.1
      have c2 : ∀ kk : LW w3, kk.val.cell? ⟨w.heap.size, 2, none⟩ = some (.int .i64 s) := fun kk => (HP.out _ (B.later kk.le)).2.2.1
      go_wp2_with fail
      refine wp_region_steady [(22, relStr4 sd sp st ⟨#[97, 108, 108]⟩)] 24 (by kernel_rfl) (by kernel_rfl) (by kernel_rfl) (by rfl) ?_
      iterate 2 (refine wpG_quiet (by rfl) (by rfl) (by rfl) (fun K hK => ?_); go_big_quiet_op; refine hK _ ?_; clear hK K)
      refine wpG_call (by rfl) (by rfl) 47 #[.int .i64 d] (.string sd) (by intro _; simp [go_sem]) (by kernel_rfl) (fun w1 hl => HT0.out w1 (hb.trans (hl.1.mono hb.size))) ?_
      simp only [Act.put, List.setIfInBounds_toArray, List.set_cons_zero, List.set_cons_succ]
      iterate 2 (refine wpG_quiet (by rfl) (by rfl) (by rfl) (fun K hK => ?_); go_big_quiet_op; refine hK _ ?_; clear hK K)
      refine wpG_call (by rfl) (by rfl) 47 #[.int .i64 p] (.string sp) (by intro _; simp [go_sem]) (by kernel_rfl) (fun w1 hl => HT1.out w1 (hb.trans (hl.1.mono hb.size))) ?_
      simp only [Act.put, List.setIfInBounds_toArray, List.set_cons_zero, List.set_cons_succ]
      iterate 2 (refine wpG_quiet (by rfl) (by rfl) (by rfl) (fun K hK => ?_); go_big_quiet_op; refine hK _ ?_; clear hK K)
      refine wpG_call (by rfl) (by rfl) 47 #[.int .i64 s] (.string st) (by intro _; simp [go_sem]) (by kernel_rfl) (fun w1 hl => HT2.out w1 (hb.trans (hl.1.mono hb.size))) ?_
      simp only [Act.put, List.setIfInBounds_toArray, List.set_cons_zero, List.set_cons_succ]
      iterate 1 (refine wpG_quiet (by rfl) (by rfl) (by rfl) (fun K hK => ?_); go_big_quiet_op; refine hK _ ?_; clear hK K)
      refine wpG_open (relStr4 sd sp st ⟨#[97, 108, 108]⟩) (by rfl) (by rfl) (fun w1 hl => str4_gives (.tmp 14) (.tmp 17) (.tmp 20) (.tmp 21) _ _ _ _ rfl rfl rfl rfl rfl w1) ?_
      rintro _ ⟨_, _, _, ⟨g2, rfl, _⟩⟩
      simp only [Act.put, List.setIfInBounds_toArray, List.set_cons_zero, List.set_cons_succ]
      refine wpG_call (by rfl) (by rfl) 48 #[.slice (some ⟨g2, 0, none⟩) 4 4, .string { data := #[46] }] (.string R) (by intro _; simp [go_sem]) (by kernel_rfl) (fun w1 hl => ?_) ?_
      · obtain ⟨g5, h5, r5⟩ := hl.2 22 _ (by simp [Op.operands, Call.operands]) rfl (by intro h; cases h)
        cases h5
        exact HJt.out (by first | rfl | trivial) g2 w1 r5
      simp only [Act.put, List.setIfInBounds_toArray, List.set_cons_zero, List.set_cons_succ]
      iterate 1 (refine wpG_quiet (by rfl) (by rfl) (by rfl) (fun K hK => ?_); go_big_quiet_op; refine hK _ ?_; clear hK K)
      refine wpG_nil fun w4 hl _ => ?_
      go_wp2_with fail
      go_ret
      exact ⟨rfl, hb.trans (hl.mono hb.size)⟩
end Go.Proofs.YticdpfjajkfheaaDoor

/- Sets of small numbers as 32 bits: what is in them, with a number, without it. -/
namespace Go.Proofs.YticdpfjajkfheaaDoor
open Go Go.RowKit
namespace BitM

theorem ofInt_nat (a : BitVec 32) : BitVec.ofInt 32 (a.toNat : Int) = a := by
  apply BitVec.eq_of_toNat_eq
  rw [BitVec.toNat_ofInt]
  have := a.isLt
  omega
theorem wrap_nat (a : BitVec 32) : IntKind.u32.wrap (a.toNat : Int) = (a.toNat : Int) := by
  have := a.isLt
  simp [IntKind.wrap, IntKind.signed, IntKind.bits]
  omega
theorem u32_and (a b : BitVec 32) : bits .and .u32 (a.toNat : Int) (b.toNat : Int) = ((a &&& b).toNat : Int) := by
  show IntKind.u32.wrap ((BitVec.ofInt 32 (a.toNat : Int) &&& BitVec.ofInt 32 (b.toNat : Int)).toNat : Int) = _
  rw [ofInt_nat, ofInt_nat, wrap_nat]
theorem u32_or (a b : BitVec 32) : bits .or .u32 (a.toNat : Int) (b.toNat : Int) = ((a ||| b).toNat : Int) := by
  show IntKind.u32.wrap ((BitVec.ofInt 32 (a.toNat : Int) ||| BitVec.ofInt 32 (b.toNat : Int)).toNat : Int) = _
  rw [ofInt_nat, ofInt_nat, wrap_nat]
theorem u32_andNot (a b : BitVec 32) : bits .andNot .u32 (a.toNat : Int) (b.toNat : Int) = ((a &&& ~~~b).toNat : Int) := by
  show IntKind.u32.wrap ((BitVec.ofInt 32 (a.toNat : Int) &&& ~~~ BitVec.ofInt 32 (b.toNat : Int)).toNat : Int) = _
  rw [ofInt_nat, ofInt_nat, wrap_nat]
theorem nat_eq (a b : BitVec 32) : ((a.toNat : Int) == (b.toNat : Int)) = (a == b) := by
  rw [Bool.eq_iff_iff]
  simp only [beq_iff_eq]
  constructor
  · intro h; exact BitVec.eq_of_toNat_eq (by omega)
  · intro h; rw [h]
theorem nat_eq0 (a : BitVec 32) : ((a.toNat : Int) == 0) = (a == 0#32) := nat_eq a 0#32
theorem nat_ne0 (a : BitVec 32) : ((a.toNat : Int) != 0) = (a != 0#32) := by
  have := nat_eq0 a
  simp only [bne, this]

/-- The set of one number; none, if it is in no set. -/
def one (n : Int) : BitVec 32 := if 0 ≤ n ∧ n < 32 then BitVec.twoPow 32 n.toNat else 0#32
/-- Is a number in a set? -/
def has (x : BitVec 32) (n : Int) : Bool := decide (0 ≤ n ∧ n < 32) && x.getLsbD n.toNat
def put (x : BitVec 32) (n : Int) : BitVec 32 := x ||| one n

theorem one_in {k : Nat} (h : k < 32) : one (k : Int) = BitVec.twoPow 32 k := by unfold one; rw [if_pos (by omega)]; rfl
theorem one_out {n : Int} (h : ¬ (0 ≤ n ∧ n < 32)) : one n = 0#32 := if_neg h
theorem has_in (x : BitVec 32) {k : Nat} (h : k < 32) : has x (k : Int) = x.getLsbD k := by
  unfold has; rw [decide_eq_true (by omega)]; rfl
theorem has_out (x : BitVec 32) {n : Int} (h : ¬ (0 ≤ n ∧ n < 32)) : has x n = false := by unfold has; rw [decide_eq_false h]; rfl
theorem and_one (x : BitVec 32) (n : Int) : (x &&& one n != 0#32) = has x n := by
  by_cases h : 0 ≤ n ∧ n < 32
  · obtain ⟨k, rfl⟩ := Int.eq_ofNat_of_zero_le h.1
    have hk : k < 32 := by omega
    rw [one_in hk, has_in x hk, BitVec.and_twoPow]
    cases hb : x.getLsbD k
    · simp
    · simp only [if_true, bne_iff_ne, ne_eq]
      intro he
      have := congrArg (fun v : BitVec 32 => v.getLsbD k) he
      simp [hk] at this
  · rw [one_out h, has_out x h]; simp
theorem two_pow_nat {k : Nat} (h : k < 32) : (BitVec.twoPow 32 k).toNat = 2 ^ k := by
  rw [BitVec.toNat_twoPow]
  exact Nat.mod_eq_of_lt (Nat.pow_lt_pow_right (by omega) h)
theorem put_add {x : BitVec 32} {k : Nat} (h : x.getLsbD k = false) : x + BitVec.twoPow 32 k = x ||| BitVec.twoPow 32 k := by
  apply BitVec.add_eq_or_of_and_eq_zero
  rw [BitVec.and_twoPow, h]; rfl
theorem put_add_nat {x : BitVec 32} {k : Nat} (hk : k < 32) (h : x.getLsbD k = false) : x.toNat + 2 ^ k = (x ||| BitVec.twoPow 32 k).toNat ∧ x.toNat + 2 ^ k < 4294967296 := by
  have h1 := put_add h
  have h2 := congrArg BitVec.toNat h1
  rw [BitVec.toNat_add, two_pow_nat hk] at h2
  have hlt : x.toNat + 2 ^ k < 2 ^ 32 := by
    have hx := x.isLt
    have hb : x.toNat / 2 ^ k % 2 = 0 := by
      have := h
      rw [BitVec.getLsbD, Nat.testBit_eq_decide_div_mod_eq] at this
      simp at this
      omega
    have hp : (2 : Nat) ^ 32 = 2 ^ k * (2 * 2 ^ (31 - k)) := by
      rw [← Nat.pow_succ', ← Nat.pow_add]; congr 1; omega
    have hd := Nat.div_add_mod x.toNat (2 ^ k)
    have hm := Nat.mod_lt x.toNat (Nat.two_pow_pos k)
    have hq : x.toNat / 2 ^ k < 2 * 2 ^ (31 - k) := by
      apply Nat.div_lt_of_lt_mul; rw [← hp]; exact hx
    have hq2 : x.toNat / 2 ^ k + 2 ≤ 2 * 2 ^ (31 - k) := by omega
    have h3 := Nat.mul_le_mul_left (2 ^ k) hq2
    rw [Nat.mul_add] at h3
    omega
  rw [Nat.mod_eq_of_lt hlt] at h2
  exact ⟨h2, by omega⟩
theorem put_self {x : BitVec 32} {n : Int} (h : has x n = true) : put x n = x := by
  unfold put
  by_cases hn : 0 ≤ n ∧ n < 32
  · obtain ⟨k, rfl⟩ := Int.eq_ofNat_of_zero_le hn.1
    have hk : k < 32 := by omega
    rw [has_in x hk] at h
    rw [one_in hk]
    apply BitVec.eq_of_getLsbD_eq
    intro i hi
    simp only [BitVec.getLsbD_or, BitVec.getLsbD_twoPow]
    by_cases e : k = i
    · subst e; simp [h]
    · simp [e]
  · rw [has_out x hn] at h; cases h
theorem has_zero (n : Int) : has 0#32 n = false := by unfold has; simp
theorem has_put (x : BitVec 32) (n m : Int) : has (put x n) m = (has x m || (decide (n = m) && decide (0 ≤ n ∧ n < 32))) := by
  by_cases hm : 0 ≤ m ∧ m < 32
  · obtain ⟨k, rfl⟩ := Int.eq_ofNat_of_zero_le hm.1
    have hk : k < 32 := by omega
    rw [has_in _ hk, has_in _ hk]
    unfold put
    rw [BitVec.getLsbD_or]
    by_cases hn : 0 ≤ n ∧ n < 32
    · obtain ⟨j, rfl⟩ := Int.eq_ofNat_of_zero_le hn.1
      have hj : j < 32 := by omega
      rw [one_in hj, BitVec.getLsbD_twoPow, decide_eq_true hn]
      by_cases e : j = k
      · subst e; simp [hk]
      · have : ¬ ((j : Int) = (k : Int)) := by omega
        simp [e, this]
    · rw [one_out hn, decide_eq_false hn]; simp
  · rw [has_out _ hm, has_out _ hm]
    by_cases e : n = m
    · subst e; rw [decide_eq_false hm]; simp
    · rw [decide_eq_false e]; simp
/-- Two sets with the same numbers are one. -/
theorem ext {x y : BitVec 32} (h : ∀ n : Int, has x n = has y n) : x = y := by
  apply BitVec.eq_of_getLsbD_eq
  intro i hi
  have := h (i : Int)
  rwa [has_in x hi, has_in y hi] at this
theorem bit_of_div (x : BitVec 32) {k : Nat} (h : k < 32) : (((x.toNat / 2 ^ k % 2 : Nat) : Int) == 1) = has x (k : Int) := by
  rw [has_in x h, BitVec.getLsbD, Nat.testBit_eq_decide_div_mod_eq, Bool.eq_iff_iff]
  generalize x.toNat / 2 ^ k % 2 = m
  simp only [beq_iff_eq, decide_eq_true_eq]
  omega
end BitM
end Go.Proofs.YticdpfjajkfheaaDoor

/- bits and the document's sets: bit, Has, With, Within, One: what each returns. -/
namespace Go.Proofs.YticdpfjajkfheaaDoor
set_option linter.unusedVariables false
open Go.RowKit BitM

end Go.Proofs.YticdpfjajkfheaaDoor

/- Which values may be: what Check returns. -/
namespace Go.Proofs.YticdpfjajkfheaaDoor
set_option linter.unusedVariables false
open Go Go.RowKit BitM

def empty : ByteArray := ⟨#[]⟩
/-- May a value be? -/
def vchk (v : V3) : Bool :=
  if v.1 = 0 then decide (v.2.1 = 0 ∧ v.2.2 = empty)
  else if v.1 = 1 then decide (0 ≤ v.2.1 ∧ v.2.1 ≤ 1099511627776 ∧ v.2.2 = empty)
  else if v.1 = 2 then decide (v.2.1 = 0 ∧ v.2.2.size ≤ 24)
  else false

theorem nil_str_iff (s : ByteArray) : s.toList = [] ↔ s = empty := by
  rw [ByteArray.toList_eq]
  constructor
  · intro h
    apply ByteArray.ext
    apply Array.ext'
    simpa [empty] using h
  · rintro rfl; rfl
theorem vchk_0 (n : Int) (s : ByteArray) : vchk (0, n, s) = decide (n = 0 ∧ s.toList = []) := by
  unfold vchk
  simp only [if_true, nil_str_iff]
theorem vchk_1 (n : Int) (s : ByteArray) : vchk (1, n, s) = decide (0 ≤ n ∧ n ≤ 1099511627776 ∧ s.toList = []) := by
  unfold vchk
  simp only [nil_str_iff]
  rfl
theorem vchk_2 (n : Int) (s : ByteArray) : vchk (2, n, s) = decide (n = 0 ∧ s.size ≤ 24) := rfl
theorem vchk_3 {k : Int} (n : Int) (s : ByteArray) (h0 : k ≠ 0) (h1 : k ≠ 1) (h2 : k ≠ 2) : vchk (k, n, s) = false := by
  unfold vchk
  simp only [h0, h1, h2, if_false]

set_option maxHeartbeats 800000 in
theorem vcheck_any (k n : Int) (s : ByteArray) (w : World) :
    Calls Tryd.prog 85 #[.agg #[.int .i64 k, .int .i64 n, .string s]] w fun e w' => e = .returned (.bool (vchk (k, n, s))) ∧ Below w.heap.size w w' := by
  by_cases h0 : k = 0
  · subst h0
    rw [vchk_0]
    go_enter Tryd.func85, Tryd.ntmps85
    go_wp2
    all_goals
      go_ret
      refine ⟨congrArg (fun b => Ending.returned (.bool b)) ?_, (Below.refl _ _).alloc (Nat.le_refl _) _⟩
      first | (simp_all; done) | (cases hs : s.toList <;> simp_all; done) | (simp_all; omega) | (cases hs : s.toList <;> simp_all <;> omega)
  by_cases h1 : k = 1
  · subst h1
    rw [vchk_1]
    go_enter Tryd.func85, Tryd.ntmps85
    go_wp2
    all_goals
      go_ret
      refine ⟨congrArg (fun b => Ending.returned (.bool b)) ?_, (Below.refl _ _).alloc (Nat.le_refl _) _⟩
      first | (simp_all; done) | (cases hs : s.toList <;> simp_all; done) | (simp_all; omega) | (cases hs : s.toList <;> simp_all <;> omega)
  by_cases h2 : k = 2
  · subst h2
    rw [vchk_2]
    go_enter Tryd.func85, Tryd.ntmps85
    go_wp2
    all_goals
      go_ret
      refine ⟨congrArg (fun b => Ending.returned (.bool b)) ?_, (Below.refl _ _).alloc (Nat.le_refl _) _⟩
      first | (simp_all; done) | (cases hs : s.toList <;> simp_all; done) | (simp_all; omega) | (cases hs : s.toList <;> simp_all <;> omega)
  · rw [vchk_3 n s h0 h1 h2]
    have b0 : (k == 0) = false := by simpa using h0
    have b1 : (k == 1) = false := by simpa using h1
    have b2 : (k == 2) = false := by simpa using h2
    clear h0 h1 h2
    go_enter Tryd.func85, Tryd.ntmps85
    go_wp2
    go_ret
    exact ⟨rfl, (Below.refl _ _).alloc (Nat.le_refl _) _⟩

set_option maxHeartbeats 800000 in
theorem rvcheck_any (k n : Int) (s : ByteArray) (w : World) :
    Calls Tryd.prog 89 #[.agg #[.int .i64 k, .int .i64 n, .string s]] w fun e w' => e = .returned (.bool (vchk (k, n, s))) ∧ Below w.heap.size w w' := by
  by_cases h0 : k = 0
  · subst h0
    rw [vchk_0]
    go_enter Tryd.func89, Tryd.ntmps89
    go_wp2
    all_goals
      go_ret
      refine ⟨congrArg (fun b => Ending.returned (.bool b)) ?_, (Below.refl _ _).alloc (Nat.le_refl _) _⟩
      first | (simp_all; done) | (cases hs : s.toList <;> simp_all; done) | (simp_all; omega) | (cases hs : s.toList <;> simp_all <;> omega)
  by_cases h1 : k = 1
  · subst h1
    rw [vchk_1]
    go_enter Tryd.func89, Tryd.ntmps89
    go_wp2
    all_goals
      go_ret
      refine ⟨congrArg (fun b => Ending.returned (.bool b)) ?_, (Below.refl _ _).alloc (Nat.le_refl _) _⟩
      first | (simp_all; done) | (cases hs : s.toList <;> simp_all; done) | (simp_all; omega) | (cases hs : s.toList <;> simp_all <;> omega)
  by_cases h2 : k = 2
  · subst h2
    rw [vchk_2]
    go_enter Tryd.func89, Tryd.ntmps89
    go_wp2
    all_goals
      go_ret
      refine ⟨congrArg (fun b => Ending.returned (.bool b)) ?_, (Below.refl _ _).alloc (Nat.le_refl _) _⟩
      first | (simp_all; done) | (cases hs : s.toList <;> simp_all; done) | (simp_all; omega) | (cases hs : s.toList <;> simp_all <;> omega)
  · rw [vchk_3 n s h0 h1 h2]
    have b0 : (k == 0) = false := by simpa using h0
    have b1 : (k == 1) = false := by simpa using h1
    have b2 : (k == 2) = false := by simpa using h2
    clear h0 h1 h2
    go_enter Tryd.func89, Tryd.ntmps89
    go_wp2
    go_ret
    exact ⟨rfl, (Below.refl _ _).alloc (Nat.le_refl _) _⟩

end Go.Proofs.YticdpfjajkfheaaDoor

/- Values in order; texts folded and in quotes: the mathematics. -/
namespace Go.Proofs.YticdpfjajkfheaaDoor
open Go
namespace ValM

theorem bl_irrefl : ∀ l : List UInt8, Op.bytesLess l l = false
  | [] => rfl
  | x :: l => by
    unfold Op.bytesLess
    rw [bl_irrefl l]
    simp
theorem bl_tri : ∀ x y : List UInt8, Op.bytesLess x y = true ∨ x = y ∨ Op.bytesLess y x = true
  | [], [] => .inr (.inl rfl)
  | [], _ :: _ => .inl rfl
  | _ :: _, [] => .inr (.inr rfl)
  | a :: x, b :: y => by
    by_cases h1 : a < b
    · exact .inl (by unfold Op.bytesLess; simp [h1])
    · by_cases h2 : b < a
      · exact .inr (.inr (by unfold Op.bytesLess; simp [h2]))
      · have e : a = b := by
          apply UInt8.toNat_inj.1
          rw [UInt8.lt_iff_toNat_lt] at h1 h2
          omega
        subst e
        rcases bl_tri x y with h | h | h
        · exact .inl (by unfold Op.bytesLess; simp [h])
        · exact .inr (.inl (by rw [h]))
        · exact .inr (.inr (by unfold Op.bytesLess; simp [h]))
theorem bl_trans : ∀ {x y z : List UInt8}, Op.bytesLess x y = true → Op.bytesLess y z = true → Op.bytesLess x z = true
  | _, [], z, h, _ => by cases ‹List UInt8› <;> simp [Op.bytesLess] at h
  | [], b :: y, [], _, h => by simp [Op.bytesLess] at h
  | [], b :: y, c :: z, _, _ => rfl
  | a :: x, b :: y, [], _, h => by simp [Op.bytesLess] at h
  | a :: x, b :: y, c :: z, h, k => by
    unfold Op.bytesLess at h k ⊢
    simp only [Bool.or_eq_true, decide_eq_true_eq, Bool.and_eq_true, beq_iff_eq] at h k ⊢
    rcases h with h | ⟨rfl, h⟩
    · rcases k with k | ⟨rfl, k⟩
      · left; rw [UInt8.lt_iff_toNat_lt] at *; omega
      · exact .inl h
    · rcases k with k | ⟨rfl, k⟩
      · exact .inl k
      · exact .inr ⟨rfl, bl_trans h k⟩
theorem bl_asymm {x y : List UInt8} (h : Op.bytesLess x y = true) : Op.bytesLess y x = false := by
  cases k : Op.bytesLess y x
  · rfl
  · have := bl_trans h k
    rw [bl_irrefl] at this
    cases this

def cmpI (a b : Int) : Int := if a < b then -1 else if b < a then 1 else 0
def cmpS (x y : List UInt8) : Int := if Op.bytesLess x y = true then -1 else if Op.bytesLess y x = true then 1 else 0
theorem cmpI_neg (a b : Int) : cmpI a b = -cmpI b a := by unfold cmpI; split <;> split <;> (try split) <;> omega
theorem cmpI_zero (a b : Int) : cmpI a b = 0 ↔ a = b := by unfold cmpI; split <;> (try split) <;> constructor <;> intro h <;> omega
theorem cmpI_vals (a b : Int) : cmpI a b = -1 ∨ cmpI a b = 0 ∨ cmpI a b = 1 := by unfold cmpI; split <;> (try split) <;> simp
theorem cmpS_neg (x y : List UInt8) : cmpS x y = -cmpS y x := by
  unfold cmpS
  rcases bl_tri x y with h | h | h
  · rw [if_pos h, if_neg (by rw [bl_asymm h]; simp), if_pos h]
  · subst h; rw [bl_irrefl]; simp
  · rw [if_neg (by rw [bl_asymm h]; simp), if_pos h, if_pos h]; rfl
theorem cmpS_zero (x y : List UInt8) : cmpS x y = 0 ↔ x = y := by
  unfold cmpS
  rcases bl_tri x y with h | h | h
  · rw [if_pos h]
    constructor
    · intro e; omega
    · intro e; subst e; rw [bl_irrefl] at h; cases h
  · subst h; rw [bl_irrefl]; simp
  · rw [if_neg (by rw [bl_asymm h]; simp), if_pos h]
    constructor
    · intro e; omega
    · intro e; subst e; rw [bl_irrefl] at h; cases h
theorem cmpS_vals (x y : List UInt8) : cmpS x y = -1 ∨ cmpS x y = 0 ∨ cmpS x y = 1 := by unfold cmpS; split <;> (try split) <;> simp
theorem cmpS_lt (x y : List UInt8) : cmpS x y < 0 ↔ Op.bytesLess x y = true := by
  unfold cmpS
  by_cases h : Op.bytesLess x y = true
  · rw [if_pos h]; simp [h]
  · rw [if_neg h]
    constructor
    · intro e; split at e <;> omega
    · intro e; exact absurd e h

abbrev V := Int × Int × ByteArray
/-- Which value stands ahead. -/
def vcmp (a b : V) : Int := if cmpI a.1 b.1 ≠ 0 then cmpI a.1 b.1 else if cmpI a.2.1 b.2.1 ≠ 0 then cmpI a.2.1 b.2.1 else cmpS a.2.2.data.toList b.2.2.data.toList
theorem vcmp_neg (a b : V) : vcmp a b = -vcmp b a := by
  unfold vcmp
  have h1 := cmpI_neg a.1 b.1
  have h2 := cmpI_neg a.2.1 b.2.1
  have h3 := cmpS_neg a.2.2.data.toList b.2.2.data.toList
  by_cases e1 : cmpI b.1 a.1 = 0
  · rw [if_neg (by omega), if_neg (show ¬ cmpI b.1 a.1 ≠ 0 by omega)]
    by_cases e2 : cmpI b.2.1 a.2.1 = 0
    · rw [if_neg (by omega), if_neg (show ¬ cmpI b.2.1 a.2.1 ≠ 0 by omega)]; exact h3
    · rw [if_pos (by omega), if_pos e2]; exact h2
  · rw [if_pos (by omega), if_pos e1]; exact h1
theorem bytes_ext {s t : ByteArray} (h : s.data.toList = t.data.toList) : s = t := by
  apply ByteArray.ext
  apply Array.ext'
  exact h
theorem vcmp_zero (a b : V) : vcmp a b = 0 ↔ a = b := by
  obtain ⟨a1, a2, a3⟩ := a
  obtain ⟨b1, b2, b3⟩ := b
  unfold vcmp
  constructor
  · intro h
    by_cases e1 : cmpI a1 b1 = 0
    · by_cases e2 : cmpI a2 b2 = 0
      · rw [if_neg (by simpa using e1), if_neg (by simpa using e2)] at h
        have := bytes_ext ((cmpS_zero _ _).1 h)
        rw [(cmpI_zero a1 b1).1 e1, (cmpI_zero a2 b2).1 e2]
        simp only at this
        rw [this]
      · rw [if_neg (by simpa using e1), if_pos (by simpa using e2)] at h
        exact absurd h (by simpa using e2)
    · rw [if_pos (by simpa using e1)] at h
      exact absurd h (by simpa using e1)
  · intro h
    injection h with h1 h
    injection h with h2 h3
    subst h1 h2 h3
    rw [if_neg (by simp [(cmpI_zero a1 a1).2 rfl]), if_neg (by simp [(cmpI_zero a2 a2).2 rfl])]
    exact (cmpS_zero _ _).2 rfl
/-- Less, of one kind. -/
def vless (a b : V) : Bool := if a.1 = b.1 ∧ (a.1 = 1 ∨ a.1 = 2) then decide (vcmp a b < 0) else false
theorem vcmp_same {a b : V} (h : a.1 = b.1) : vcmp a b < 0 ↔ a.2.1 < b.2.1 ∨ (a.2.1 = b.2.1 ∧ Op.bytesLess a.2.2.data.toList b.2.2.data.toList = true) := by
  unfold vcmp
  rw [if_neg (by simp [(cmpI_zero a.1 b.1).2 h])]
  by_cases e : a.2.1 = b.2.1
  · rw [if_neg (by simp [(cmpI_zero a.2.1 b.2.1).2 e]), cmpS_lt]
    constructor
    · intro k; exact .inr ⟨e, k⟩
    · rintro (k | ⟨_, k⟩)
      · omega
      · exact k
  · rw [if_pos (by intro k; exact e ((cmpI_zero _ _).1 k))]
    unfold cmpI
    constructor
    · intro k
      by_cases h1 : a.2.1 < b.2.1
      · exact .inl h1
      · rw [if_neg h1] at k
        split at k <;> omega
    · rintro (k | ⟨k, _⟩)
      · rw [if_pos k]; omega
      · exact absurd k e
theorem vless_trans {a b c : V} (h : vless a b = true) (k : vless b c = true) : vless a c = true := by
  unfold vless at *
  by_cases h1 : a.1 = b.1 ∧ (a.1 = 1 ∨ a.1 = 2)
  · rw [if_pos h1] at h
    by_cases k1 : b.1 = c.1 ∧ (b.1 = 1 ∨ b.1 = 2)
    · rw [if_pos k1] at k
      rw [if_pos ⟨h1.1.trans k1.1, h1.2⟩]
      simp only [decide_eq_true_eq] at *
      rw [vcmp_same h1.1] at h
      rw [vcmp_same k1.1] at k
      rw [vcmp_same (h1.1.trans k1.1)]
      rcases h with h | ⟨h, h'⟩
      · rcases k with k | ⟨k, k'⟩
        · left; omega
        · left; omega
      · rcases k with k | ⟨k, k'⟩
        · left; omega
        · exact .inr ⟨h.trans k, bl_trans h' k'⟩
    · rw [if_neg k1] at k; cases k
  · rw [if_neg h1] at h; cases h
theorem vless_irrefl (a : V) : vless a a = false := by
  unfold vless
  split
  · rw [(vcmp_zero a a).2 rfl]; rfl
  · rfl
theorem vless_asymm {a b : V} (h : vless a b = true) : vless b a = false := by
  cases k : vless b a
  · rfl
  · have := vless_trans h k
    rw [vless_irrefl] at this
    cases this

/-- A byte, a text, with small letters. -/
def lowB (c : UInt8) : UInt8 := if 65 ≤ c.toNat ∧ c.toNat ≤ 90 then c + 32 else c
def fold (l : List UInt8) : List UInt8 := l.map lowB
def vholds (a b : V) : Bool := decide (a.1 = 2) && decide (b.1 = 2) && Lib.contains (fold a.2.2.data.toList) (fold b.2.2.data.toList)
theorem lowB_up {c : UInt8} (h1 : 65 ≤ c.toNat) (h2 : c.toNat ≤ 90) : (lowB c).toNat = c.toNat + 32 := by
  unfold lowB
  rw [if_pos ⟨h1, h2⟩, UInt8.toNat_add]
  have : (32 : UInt8).toNat = 32 := rfl
  rw [this]
  omega
theorem lowB_same {c : UInt8} (h : ¬ (65 ≤ c.toNat ∧ c.toNat ≤ 90)) : lowB c = c := by unfold lowB; rw [if_neg h]

/-- A text of plain bytes in quotes. -/
def esc (c : UInt8) : List UInt8 := if c = 34 ∨ c = 92 then [92, c] else [c]
def qpl (l : List UInt8) : List UInt8 := l.flatMap esc
theorem qpl_snoc (l : List UInt8) (c : UInt8) : qpl (l ++ [c]) = qpl l ++ esc c := by simp [qpl]
theorem qpl_len (l : List UInt8) : (qpl l).length ≤ 2 * l.length := by
  induction l with
  | nil => simp [qpl]
  | cons x l ih =>
    have : (esc x).length ≤ 2 := by unfold esc; split <;> simp
    simp only [qpl, List.flatMap_cons, List.length_append, List.length_cons] at ih ⊢
    omega
end ValM
end Go.Proofs.YticdpfjajkfheaaDoor

/- A region that draws its order, whose calls make memory, and whose last operations (a store, an append) wait for all the others: the others walked once, in the order of the text. -/
namespace Go.Proofs.YticdpfjajkfheaaDoor
open Go Go.RowKit

section
variable (P : Program) (ops : Array Oper) (md : Region.Mode) (G : Tmp → Option Rel) (w0 : World) (n : Nat) (L : Array Bool → Act → Prop)
def wpAnyH : Nat → Array Bool → Act → Prop
  | 0, listed, a => L listed a
  | f + 1, listed, a => Region.ready md ops listed ≠ [] ∧ ∀ i ∈ Region.ready md ops listed, i < n ∧ gOp P ops G w0 i listed (wpAnyH f (listed.setIfInBounds i true)) a
end
section
variable {P : Program} {ops : Array Oper} {md : Region.Mode} {G : Tmp → Option Rel} {w0 : World} {n : Nat} {L : Array Bool → Act → Prop}

theorem wpAnyH_first (hF : Fed ops md G) {i : Nat} {oi : Oper} (hi : ops[i]? = some oi) (hsel : ∀ (j : Nat) (o : Oper) cs b, ops[j]? = some o → o.op ≠ .select cs b)
    (hs : Region.sinkB md ops n = true) (hc : Region.chainB md ops n = true) (hn : n < ops.size) (hin : i < n)
    (hdone : ∀ listed a, L listed a → ∀ j ∈ Region.ready md ops listed, n ≤ j) :
    ∀ (fuel : Nat) (listed : Array Bool) (a : Act), HeadInv md ops n listed →
      (∀ j oj, ops[j]? = some oj → j ≠ i → listed.getD j true = false → (∀ e ∈ oj.after, Region.binds md e = true → e.on ≠ i) → oi.apart ops oj = true) →
      i ∈ Region.ready md ops listed → (∃ w, Inv ops G w0 listed a w) →
      gOp P ops G w0 i listed (wpAnyH P ops md G w0 n L fuel (listed.setIfInBounds i true)) a → wpAnyH P ops md G w0 n L (fuel + 1) listed a := by
  intro fuel
  induction fuel with
  | zero =>
    intro listed a inv _ hr hne H
    have hun := (mem_ready.1 hr).1
    refine ⟨fun h => (by rw [h] at hr; cases hr), fun j hj => ?_⟩
    have hjn : j < n := by
      rcases Nat.lt_or_ge j n with h | h
      · exact h
      · exact absurd hj (tail_waits hs hc hn inv _ i rfl hin hun j h)
    refine ⟨hjn, ?_⟩
    by_cases hji : j = i
    · subst hji; exact H
    · obtain ⟨u, hp, _⟩ := exists_poss hF hr hi hne (H oi hi).1
      have h1 := (H oi hi).2 u hp
      have := hdone _ _ h1 j (ready_mono hj hji)
      omega
  | succ fuel ih =>
    intro listed a inv hfree hr hne H
    have hiun := (mem_ready.1 hr).1
    refine ⟨fun h => (by rw [h] at hr; cases hr), fun j hj => ?_⟩
    have hjn : j < n := by
      rcases Nat.lt_or_ge j n with h | h
      · exact h
      · exact absurd hj (tail_waits hs hc hn inv _ i rfl hin hiun j h)
    refine ⟨hjn, ?_⟩
    by_cases hji : j = i
    · subst hji; exact H
    obtain ⟨hgi, hnext⟩ := H oi hi
    obtain ⟨v0, hp0, _⟩ := exists_poss hF hr hi hne hgi
    obtain ⟨hjun, oj', hoj', hall⟩ := mem_ready.1 hj
    have hnot : ∀ e ∈ oj'.after, Region.binds md e = true → e.on ≠ i := fun e he hb heq => by
      have h1 := hall e he hb
      rw [heq, getD_both hiun] at h1
      cases h1
    intro oj hoj
    obtain rfl : oj' = oj := by rw [hoj] at hoj'; injection hoj' with h; exact h.symm
    have hap := hfree j oj' hoj hji hjun hnot
    obtain ⟨p1, p2, p3⟩ := Oper.apart_spec hap
    have sj : ∀ v, Alike ops oj' a (a.put oi.dst v) := fun v => alike_put (fun cs b => hsel j oj' cs b hoj) p1
    have si : ∀ u, Alike ops oi a (a.put oj'.dst u) := fun u => alike_put (fun cs b => hsel i oi cs b hi) p3
    have hjr := ready_mono hj hji
    refine ⟨fun hwt w hw => ?_, fun u hu => ?_⟩
    · have h1 := (((hnext v0 hp0).2 j hjr).2 oj' hoj).1 (by rw [(sj v0).want]; exact hwt) w ((sj v0).symm.lean hw)
      exact (sj v0).gives h1
    · have hne' : ∃ w, Inv ops G w0 (listed.setIfInBounds j true) (a.put oj'.dst u) w := by
        rcases hu with ⟨_, h, _⟩ | ⟨_, rfl⟩
        · exact h
        · obtain ⟨w, hw⟩ := hne
          exact ⟨w, hw.put hF hoj (fun d R hd hR h => absurd rfl h)⟩
      have hiun' : (listed.setIfInBounds j true).getD i true = false := by rw [getD_set_ne true hji]; exact hiun
      have hfree' : ∀ k ok, ops[k]? = some ok → k ≠ i → (listed.setIfInBounds j true).getD k true = false →
          (∀ e ∈ ok.after, Region.binds md e = true → e.on ≠ i) → oi.apart ops ok = true := fun k ok hk hki hun hno => by
        refine hfree k ok hk hki ?_ hno
        by_cases hjk : j = k
        · subst hjk; exact hjun
        · rw [getD_set_ne true hjk] at hun; exact hun
      refine ih (listed.setIfInBounds j true) (a.put oj'.dst u) (inv.set hj hjn) hfree' (ready_mono hr (Ne.symm hji)) hne' ?_
      intro oi' hoi'
      obtain rfl : oi = oi' := by rw [hi] at hoi'; injection hoi' with h
      refine ⟨fun hwt w hw => ?_, fun v hv => ?_⟩
      · exact (si u).symm.gives (hgi (by rw [← (si u).want]; exact hwt) w ((si u).lean hw))
      · have hI : ∃ w, Inv ops G w0 ((listed.setIfInBounds i true).setIfInBounds j true) ((a.put oi.dst v).put oj'.dst u) w := by
          rcases hv with ⟨_, ⟨w, hw⟩, _⟩ | ⟨_, rfl⟩
          · exact ⟨w, hw.comm hji (fun d hd he => p2 d he hd)⟩
          · obtain ⟨w, hw⟩ := hne'
            exact ⟨w, (hw.put hF hi (fun d R hd hR h => absurd rfl h)).comm hji (fun d hd he => p2 d he hd)⟩
        have hpi : Poss P ops G w0 i listed oi a v := by
          rcases hv with ⟨h1, _, w2, h2⟩ | ⟨h1, h2⟩
          · refine .inl ⟨by rw [← (si u).want]; exact h1, ?_, w2, by rw [← (si u).rel]; exact h2⟩
            obtain ⟨w, hw⟩ := hI
            exact ⟨w, hw.less hF hoj (by rw [getD_set_ne true (Ne.symm hji)]; exact hjun)⟩
          · exact .inr ⟨by rw [← (si u).want]; exact h1, h2⟩
        have hk := (((hnext v hpi).2 j hjr).2 oj' hoj).2 u (by
          rcases hu with ⟨h1, _, w2, h2⟩ | ⟨h1, h2⟩
          · exact .inl ⟨by rw [(sj v).want]; exact h1, hI, w2, by rw [(sj v).rel]; exact h2⟩
          · exact .inr ⟨by rw [(sj v).want]; exact h1, h2⟩)
        rw [Array.setIfInBounds_comm _ _ hji, Act.put_comm a u v (fun d hd he => p2 d he hd)]
        exact hk

theorem wpAny_of_H {g : Nat} {Q : Exit → Act → World → Prop} (hF : Fed ops md G) (hL : ∀ listed a w, L listed a → Inv ops G w0 listed a w → wpAny P md ops Q g listed a w) :
    ∀ (f : Nat) (listed : Array Bool) (a : Act) (w : World), Inv ops G w0 listed a w → wpAnyH P ops md G w0 n L f listed a → wpAny P md ops Q (f + g) listed a w
  | 0, _, _, w, hw, h => by rw [Nat.zero_add]; exact hL _ _ w h hw
  | fuel + 1, listed, a, w, hw, h => by
    rw [show fuel + 1 + g = (fuel + g) + 1 by omega]
    refine ⟨fun h0 => absurd h0 h.1, fun i hi => ?_⟩
    obtain ⟨hun, o, ho, _⟩ := mem_ready.1 hi
    obtain ⟨hg, hn⟩ := (h.2 i hi).2 o ho
    unfold wpOp
    simp only [ho]
    by_cases hwt : Region.wanted o (yielded ops a.tmps) = true
    · simp only [hwt, if_true]
      left
      have h1 := hg hwt w (hw.lean hF hi ho)
      have next : ∀ u w', Le w w' → relOf P G w0 o a u w' → wpAny P md ops Q (fuel + g) (listed.setIfInBounds i true) (a.put o.dst u) w' := fun u w' hl hr => by
        have hI := (hw.mono hl).put hF ho (u := u) (fun d R hd hR _ => rel_of hr d R hd hR)
        exact wpAny_of_H hF hL fuel _ _ w' hI (hn u (.inl ⟨hwt, ⟨w', hI⟩, ⟨w', hr⟩⟩))
      unfold gives at h1
      unfold Oper.wp
      generalize (execOp a.eval o).run P w = r at *
      cases r with
      | ok n w' =>
        cases n <;> simp only [givesUpon] at h1 <;> simp only [Oper.upon]
        case value u => exact next _ _ h1.1 h1.2
        case skip => exact next _ _ h1.1 h1.2
        case enter f args => exact h1.2.mono fun e w'' ⟨v, he, hl, hr⟩ => by subst he; exact next _ _ (h1.1.trans hl) hr
      | halt x w' => simp only [givesUpon] at h1
    · simp only [hwt]
      exact wpAny_of_H hF hL fuel _ _ w (hw.put hF ho (fun d R hd hR h => absurd rfl h)) (hn undef (.inr ⟨by simpa using hwt, rfl⟩))

attribute [local semireducible] wpG in
theorem wpAnyH_lex {g : Nat} {Tn : Act → World → Prop} (hF : Fed ops md G) (hsel : Region.noSelect ops = true) (hs : Region.sinkB md ops n = true) (hc : Region.chainB md ops n = true) (hn : n < ops.size) (nt : Nat) (hd : ∀ o ∈ ops, ∀ d, o.dst = some d → d < nt) :
    ∀ (l : List Oper) (k : Nat) (listed : Array Bool) (a : Act) (S : World → Prop), (∀ j, j < l.length → l[j]? = ops[k + j]?) → k + l.length = n → HeadInv md ops n listed →
    Region.lexHead md ops g l.length k listed = true → a.tmps.size = nt → (∃ w, Inv ops G w0 listed a w) → (∀ w, Inv ops G w0 listed a w → S w) → wpG P ops G w0 Tn l a S →
    wpAnyH P ops md G w0 n (fun listed' a' => Region.seqB md ops g n listed' = true ∧ ∀ w, Inv ops G w0 listed' a' w → Tn a' w) l.length listed a
  | [], k, listed, a, S, _, hk, _, hB, _, _, hS, h => by
    have : k = n := by simpa using hk
    subst this
    unfold wpG at h
    exact ⟨by simpa [Region.lexHead] using hB, fun w hw => h w hw.1 (hS w hw)⟩
  | o :: l, k, listed, a, S, hl, hk, inv, hB, ha, hne, hS, h => by
    have h0 : ops[k]? = some o := by simpa using (hl 0 (by simp)).symm
    simp only [List.length_cons, Region.lexHead, Bool.and_eq_true] at hB
    obtain ⟨⟨hr, hf⟩, hB'⟩ := hB
    have hkn : k < n := by simp only [List.length_cons] at hk; omega
    have hrd : k ∈ Region.ready md ops listed := by simpa using hr
    have hun := (mem_ready.1 hrd).1
    have hl' : ∀ j, j < l.length → l[j]? = ops[k + 1 + j]? := fun j hj => by have := hl (j + 1) (by simp; omega); simpa [Nat.add_assoc, Nat.add_comm 1 j] using this
    have hk' : k + 1 + l.length = n := by simp only [List.length_cons] at hk; omega
    refine wpAnyH_first hF h0 (Region.noSelect_spec hsel) hs hc hn hkn (fun listed' a' hL => seqB_ready hL.1) l.length listed a inv (Region.free_spec h0 hf) hrd hne ?_
    intro o' ho'
    obtain rfl : o = o' := by rw [h0] at ho'; injection ho' with h
    unfold wpG at h
    by_cases hwt : Region.wanted o (yielded ops a.tmps) = true
    · simp only [hwt, if_true] at h
      cases hb : o.dst.bind G with
      | some R =>
        simp only [hb] at h
        have hrel : relOf P G w0 o a = R.rel := by unfold relOf; rw [hb]
        obtain ⟨d, hod, hGd⟩ := Option.bind_eq_some_iff.1 hb
        refine ⟨fun _ w hw => by rw [hrel]; exact h.1 w hw, fun u hu => ?_⟩
        rcases hu with ⟨_, ⟨w1, hI⟩, w2, hr2⟩ | ⟨hw', _⟩
        · rw [hrel] at hr2
          have hreal : u ≠ undef := fun e => R.real w2 (e ▸ hr2)
          have hlt : d < a.tmps.size := by rw [ha]; exact hd o (Array.mem_of_getElem? h0) d hod
          have hev : (a.put o.dst u).eval (.tmp d) = u := by rw [hod]; simp [Act.put, Act.eval, hlt]
          have hS' : ∀ w, Inv ops G w0 (listed.setIfInBounds k true) (a.put o.dst u) w → S w ∧ R.rel u w := fun w hw => by
            refine ⟨hS w (hw.less hF h0 hun), ?_⟩
            have hls : (listed.setIfInBounds k true).getD k false = true := by
              rcases Nat.lt_or_ge k listed.size with h' | h'
              · simp [h']
              · simp [Array.getElem?_eq_none h'] at hun
            have := hw.2 k o d R h0 hls hod hGd (by rw [hev]; exact hreal)
            rwa [hev] at this
          exact wpAnyH_lex hF hsel hs hc hn nt hd l (k + 1) _ _ _ hl' hk' (inv.set hrd hkn) hB' (by rw [put_size]; exact ha) ⟨w1, hI⟩ hS' (h.2 u ⟨w1, hI.1, (hS' w1 hI).1, (hS' w1 hI).2⟩)
        · rw [hwt] at hw'; cases hw'
      | none =>
        simp only [hb] at h
        obtain ⟨v, hv, hrest⟩ := h
        have hrel : relOf P G w0 o a = fun u _ => u = valOf P G w0 o a := by unfold relOf; rw [hb]
        have hval : valOf P G w0 o a = v := by
          obtain ⟨w, hw⟩ := hne
          have hlw := hw.lean hF hrd h0
          exact firmAt_same P (valOf_firm P G w0 hv w hlw) (hv w hlw)
        refine ⟨fun _ w hw => by rw [hrel]; exact firmAt_gives P (valOf_firm P G w0 hv w hw), fun u hu => ?_⟩
        rcases hu with ⟨_, hI, w2, hr2⟩ | ⟨hw', _⟩
        · rw [hrel, hval] at hr2
          subst hr2
          exact wpAnyH_lex hF hsel hs hc hn nt hd l (k + 1) _ _ S hl' hk' (inv.set hrd hkn) hB' (by rw [put_size]; exact ha) hI (fun w hw => hS w (hw.less hF h0 hun)) hrest
        · rw [hwt] at hw'; cases hw'
    · simp only [hwt] at h
      refine ⟨fun hw' => absurd hw' hwt, fun u hu => ?_⟩
      rcases hu with ⟨hw', _⟩ | ⟨_, rfl⟩
      · exact absurd hw' hwt
      · obtain ⟨w, hw⟩ := hne
        have hI := hw.put hF h0 (u := undef) (fun d R hd hR h => absurd rfl h)
        exact wpAnyH_lex hF hsel hs hc hn nt hd l (k + 1) _ _ S hl' hk' (inv.set hrd hkn) hB' (by rw [put_size]; exact ha) ⟨w, hI⟩ (fun w hw => hS w (hw.less hF h0 hun)) h
end

/-- The first m operations walked once; the others, which wait for them, in a row. -/
theorem wp_region_tail {P : Program} {id : Nat} {Q : Exit → Act → World → Prop} {a : Act} {w : World} {l : List Oper} (g : List (Tmp × Rel)) (nt m : Nat) (hm : P.follows .mixedOrders = true) (hB : Region.lexTailB .any l.toArray m = true)
    (hf : fedB l (g.map (·.1)) nt = true) (hn : a.tmps.size = nt) (h : wpG P l.toArray (openOf g) w (fun a' w' => wpList P l.toArray Q (l.drop m) a' w') (l.take m) a (fun _ => True)) : (Code.region id l.toArray true).wp P Q a w := by
  simp only [Region.lexTailB, Bool.and_eq_true, decide_eq_true_eq] at hB
  obtain ⟨⟨⟨⟨hsel, hn'⟩, hs⟩, hc⟩, hlex⟩ := hB
  obtain ⟨hF, hd⟩ := fedB_fed (n := nt) hf
  have hnl : m < l.length := by simpa using hn'
  have htl : (l.take m).length = m := by simp; omega
  have hdl : (l.drop m).length = l.toArray.size - m := by simp
  have hI : ∀ w', Le w w' → Inv l.toArray (openOf g) w (Array.replicate l.toArray.size false) a w' := fun w' hl => ⟨hl, fun k o d R _ hk => by
    exfalso
    rw [getD_replicate_false] at hk
    cases hk⟩
  have inv0 : HeadInv .any l.toArray m (Array.replicate l.toArray.size false) :=
    ⟨by simp, fun j oj _ hl => (by rw [getD_replicate_false] at hl; cases hl), fun t _ ht => getD_in (by simpa using ht) (getD_replicate_false _ _)⟩
  have H := wpAnyH_lex (md := .any) (g := l.toArray.size - m) hF hsel hs hc hn' nt hd (l.take m) 0 _ a (fun _ => True) (fun j hj => by
    have hj' : j < m := by rw [htl] at hj; exact hj
    simp [hj']) (by simpa using htl) inv0 (by rw [htl]; exact hlex) hn ⟨_, hI w (Le.refl w)⟩ (fun _ _ => trivial) h
  refine wp_region_any hm ?_
  have := wpAny_of_H (Q := Q) (g := l.toArray.size - m) hF (fun listed a' w' hL hw => by
    have := wpAny_of_seq (md := .any) (Q' := Q) (l.drop m) m listed a' w' (fun j => by simp [List.getElem?_drop]) (by rw [hdl]; exact hL.1) (hL.2 w' hw)
    rwa [hdl] at this) _ _ _ _ (hI { w with drawn := w.drawn + 1 } ((Below.refl _ _).drew)) H
  rw [htl, show m + (l.toArray.size - m) = l.toArray.size by omega] at this
  exact this
end Go.Proofs.YticdpfjajkfheaaDoor

/- Compare and Less of values: what each returns. -/
namespace Go.Proofs.YticdpfjajkfheaaDoor
set_option linter.unusedVariables false
open Go Go.RowKit BitM ValM

/-- The first number that is not 0. -/
def firstNZ (l : List Int) : Int := (l.find? fun x => x != 0).getD 0
/-- A slot that holds a slice of numbers. -/
def relInts (l : List Int) : Rel where
  rel x w := ∃ g, x = .slice (some ⟨g, 0, none⟩) l.length l.length ∧ Blk w g (ivs l)
  mono := fun x w w' h ⟨g, e, hr⟩ => ⟨g, e, hr.later h⟩
  real := fun w ⟨g, e, _⟩ => by cases e
theorem Blk.seesInts {w : World} {g : Nat} {l : List Int} (h : Blk w g (ivs l)) : Sees w w.heap.size (some ⟨g, 0, none⟩) (ivs l) := fun _ => by
  refine ⟨g, 0, rfl, h.lt, fun j hj => ?_⟩
  rw [Nat.zero_add]
  exact h.cell (List.getElem?_eq_getElem hj)
theorem run_ints3 (a b c : Int) (w : World) : (Instr.buildSlice 37 3 #[(0, .int .i64 a), (1, .int .i64 b), (2, .int .i64 c)]).run Tryd.prog w = .ok (.slice (some ⟨w.heap.size, 0, none⟩) 3 3) (w.alloc (.cells (ivs [a, b, c]).toArray 3)) := by kernel_rfl
theorem ints3_gives {a : Act} {op : Oper} (x y z : Operand) (p q r : Int) (ho : op.op = .buildSlice 37 3 #[(0, x), (1, y), (2, z)]) (hx : a.eval x = .int .i64 p) (hy : a.eval y = .int .i64 q) (hz : a.eval z = .int .i64 r) (w : World) : gives Tryd.prog op a (relInts [p, q, r]).rel w := by
  unfold gives execOp
  simp only [ho, List.map_toArray, List.map_cons, List.map_nil, hx, hy, hz, Sem.run_bind, run_ints3, Result.andThen_ok, Sem.run_pure]
  exact ⟨(Below.refl _ _).alloc (Nat.le_refl _) _, _, rfl, Blk.new w _ _⟩

theorem first3 (a b c : Int) : firstNZ [a, b, c] = if a ≠ 0 then a else if b ≠ 0 then b else c := by
  unfold firstNZ
  by_cases h1 : a = 0
  · by_cases h2 : b = 0
    · by_cases h3 : c = 0 <;> simp [h1, h2, h3]
    · simp [h1, h2]
  · simp [h1]

theorem info_val : (Tryd.prog.info? 89).map (·.size) = some 3 := by kernel_rfl
/-- The world behind two boxes. -/
theorem two_boxes (a b : V3) (w : World) : ∃ W, W = (w.alloc (.cells (vcells a).toArray 89)).alloc (.cells (vcells b).toArray 89) ∧ Blk W w.heap.size (vcells a) ∧ Blk W (w.heap.size + 1) (vcells b) ∧ Below w.heap.size w W := by
  refine ⟨_, rfl, (Blk.new w (vcells a) 89).alloc _, ?_, ((Below.refl w.heap.size w).alloc (Nat.le_refl _) _).alloc (by simp) _⟩
  have := Blk.new (w.alloc (.cells (vcells a).toArray 89)) (vcells b) 89
  have hs1 : (w.alloc (.cells (vcells a).toArray 89)).heap.size = w.heap.size + 1 := by simp
  rw [hs1] at this
  exact this
theorem Blk.val {w : World} {g : Nat} {k n : Int} {s : ByteArray} (h : Blk w g (vcells (k, n, s))) : w.cell? ⟨g, 0, none⟩ = some (.int .i64 k) ∧ w.cell? ⟨g, 1, none⟩ = some (.int .i64 n) ∧ w.cell? ⟨g, 2, none⟩ = some (.string s) := ⟨h.cell rfl, h.cell rfl, h.cell rfl⟩
theorem Blk.valR {w : World} {g : Nat} {a : V3} (h : Blk w g (vcells a)) : w.rangeAt g 0 (vcells a) := h.range 0 _ rfl
end Go.Proofs.YticdpfjajkfheaaDoor

/- Texts of masks: parts of a text, what each asks for, and that texts are read back: the mathematics. -/
namespace Go.Proofs.YticdpfjajkfheaaDoor
open Go
namespace MskM

/-- The parts of a text between separators. -/
def parts (c : UInt8) : List UInt8 → List (List UInt8)
  | [] => [[]]
  | x :: l => if x = c then [] :: parts c l else match parts c l with
    | p :: ps => (x :: p) :: ps
    | [] => [[x]]
theorem parts_ne (c : UInt8) : ∀ l, parts c l ≠ []
  | [] => by simp [parts]
  | x :: l => by
    unfold parts
    split
    · simp
    · split <;> simp
theorem parts_cons (c : UInt8) (l : List UInt8) : ∃ p ps, parts c l = p :: ps := by
  rcases h : parts c l with _ | ⟨p, ps⟩
  · exact absurd h (parts_ne c l)
  · exact ⟨p, ps, rfl⟩
theorem join_parts (c : UInt8) : ∀ l, Lib.join (parts c l) [c] = l
  | [] => rfl
  | x :: l => by
    have ih := join_parts c l
    obtain ⟨p, ps, hp⟩ := parts_cons c l
    rw [hp, Lib.join_cons] at ih
    unfold parts
    by_cases h : x = c
    · rw [if_pos h, hp, Lib.join_cons]
      subst h
      simp only [Lib.joinTail, List.map_cons, List.flatten_cons, List.nil_append, List.cons_append] at ih ⊢
      rw [← ih]
    · rw [if_neg h, hp]
      show Lib.join ((x :: p) :: ps) [c] = _
      rw [Lib.join_cons, ← ih]
      rfl
theorem parts_skip (c : UInt8) : ∀ (p l : List UInt8), c ∉ p → ∃ q qs, parts c l = q :: qs ∧ parts c (p ++ l) = (p ++ q) :: qs
  | [], l, _ => by
    obtain ⟨q, qs, h⟩ := parts_cons c l
    exact ⟨q, qs, h, h⟩
  | x :: p, l, h => by
    simp only [List.mem_cons, not_or] at h
    obtain ⟨q, qs, h1, h2⟩ := parts_skip c p l h.2
    refine ⟨q, qs, h1, ?_⟩
    show parts c (x :: (p ++ l)) = _
    unfold parts
    rw [if_neg (fun e => h.1 e.symm), h2]
    rfl

/-- The text of a field, or of the labels. -/
def tok (i : Nat) : List UInt8 := if i = 8 then [108] else [UInt8.ofNat (48 + i)]
def toks (m : Nat) : List (List UInt8) := ((List.range 9).filter fun i => m.testBit i).map tok
def mtx (m : Nat) : List UInt8 := if 511 < m then [] else if m = 0 then [45] else Lib.join (toks m) [44]
/-- The bit that a part asks for. -/
def askP : List UInt8 → Option Nat
  | [c] => if c = 108 then some 256 else if 48 ≤ c.toNat ∧ c.toNat < 56 then some (2 ^ (c.toNat - 48)) else none
  | _ => none
def gath : List (List UInt8) → Nat → Option Nat
  | [], m => some m
  | p :: ps, m => match askP p with
    | none => none
    | some b => if b ≤ m then none else gath ps (m ||| b)
def mrd (t : List UInt8) : Option Nat := if t = [45] then some 0 else gath (parts 44 t) 0

theorem askP_tok {p : List UInt8} {b : Nat} (h : askP p = some b) : ∃ k, k < 9 ∧ b = 2 ^ k ∧ p = tok k := by
  match p with
  | [] => simp [askP] at h
  | [c] =>
    simp only [askP] at h
    by_cases hc : c = 108
    · rw [if_pos hc] at h
      injection h with h
      exact ⟨8, by omega, h.symm, by subst hc; rfl⟩
    · rw [if_neg hc] at h
      by_cases hd : 48 ≤ c.toNat ∧ c.toNat < 56
      · rw [if_pos hd] at h
        injection h with h
        refine ⟨c.toNat - 48, by omega, h.symm, ?_⟩
        unfold tok
        rw [if_neg (by omega), show 48 + (c.toNat - 48) = c.toNat by omega]
        simp
      · rw [if_neg hd] at h; cases h
  | _ :: _ :: _ => simp [askP] at h
theorem toks_or : ∀ m, m < 512 → ∀ k, k < 9 → m < 2 ^ k → toks (m ||| 2 ^ k) = toks m ++ [tok k] ∧ m ||| 2 ^ k < 512 := by decide +kernel
theorem gath_toks : ∀ (ps : List (List UInt8)) (m0 m : Nat), m0 < 512 → gath ps m0 = some m → toks m = toks m0 ++ ps ∧ m < 512
  | [], m0, m, h0, h => by
    simp only [gath] at h
    injection h with h
    subst h
    exact ⟨by simp, h0⟩
  | p :: ps, m0, m, h0, h => by
    simp only [gath] at h
    cases ha : askP p with
    | none => rw [ha] at h; cases h
    | some b =>
      rw [ha] at h
      obtain ⟨k, hk, rfl, rfl⟩ := askP_tok ha
      simp only at h
      by_cases hb : 2 ^ k ≤ m0
      · rw [if_pos hb] at h; cases h
      · rw [if_neg hb] at h
        obtain ⟨h1, h2⟩ := toks_or m0 h0 k hk (by omega)
        obtain ⟨h3, h4⟩ := gath_toks ps _ m h2 h
        rw [h3, h1]
        exact ⟨by simp, h4⟩
theorem mrd_some {t : List UInt8} {m : Nat} (h : mrd t = some m) : m < 512 ∧ mtx m = t := by
  unfold mrd at h
  by_cases ht : t = [45]
  · rw [if_pos ht] at h
    injection h with h
    subst h
    exact ⟨by omega, ht.symm⟩
  · rw [if_neg ht] at h
    obtain ⟨h1, h2⟩ := gath_toks _ _ _ (by omega) h
    have h3 : toks 0 = [] := rfl
    rw [h3, List.nil_append] at h1
    have h4 : m ≠ 0 := by
      rintro rfl
      rw [h3] at h1
      exact parts_ne 44 t h1.symm
    refine ⟨h2, ?_⟩
    unfold mtx
    rw [if_neg (by omega), if_neg h4, h1, join_parts]
theorem mrd_mtx : ∀ m, m < 512 → mrd (mtx m) = some m := by decide +kernel
theorem mrd_none {t : List UInt8} (h : mrd t = none) (m : Nat) (hm : m < 512) : mtx m ≠ t := by
  rintro rfl
  rw [mrd_mtx m hm] at h
  cases h
theorem mtx_inj {m n : Nat} (hm : m < 512) (hn : n < 512) (h : mtx m = mtx n) : m = n := by
  have h1 := mrd_mtx m hm
  rw [h, mrd_mtx n hn] at h1
  injection h1 with h1
  exact h1.symm

theorem itoa_small {i : Nat} (h : i < 10) : Lib.itoa (i : Int) = [UInt8.ofNat (48 + i)] := by
  unfold Lib.itoa
  rw [if_neg (by omega), Int.toNat_natCast, Lib.decDigits_one h]
theorem itoa_tok {i : Nat} (h : i < 8) : Lib.itoa (i : Int) = tok i := by
  rw [itoa_small (by omega)]
  unfold tok
  rw [if_neg (by omega)]
end MskM
end Go.Proofs.YticdpfjajkfheaaDoor

/- A text cut at a byte is its parts; numbers read of texts: the mathematics. -/
namespace Go.Proofs.YticdpfjajkfheaaDoor
open Go
namespace MskM

theorem parts_none (c : UInt8) : ∀ (l : List UInt8), c ∉ l → parts c l = [l]
  | [], _ => rfl
  | x :: l, h => by
    simp only [List.mem_cons, not_or] at h
    unfold parts
    rw [if_neg (fun e => h.1 e.symm), parts_none c l h.2]
theorem parts_first (c : UInt8) : ∀ (p r : List UInt8), c ∉ p → parts c (p ++ c :: r) = p :: parts c r
  | [], r, _ => by
    show parts c (c :: r) = _
    rw [parts, if_pos rfl]
  | x :: p, r, h => by
    simp only [List.mem_cons, not_or] at h
    show parts c (x :: (p ++ c :: r)) = _
    rw [parts, if_neg (fun e => h.1 e.symm), parts_first c p r h.2]
theorem index_none (c : UInt8) : ∀ (l : List UInt8), c ∉ l → Lib.index l [c] = -1
  | [], _ => rfl
  | x :: l, h => by
    simp only [List.mem_cons, not_or] at h
    have hp : ([c] : List UInt8).isPrefixOf (x :: l) = false := by simp [List.isPrefixOf, h.1]
    rw [Lib.index, hp, index_none c l h.2]; simp
theorem index_at (c : UInt8) : ∀ (p r : List UInt8), c ∉ p → Lib.index (p ++ c :: r) [c] = (p.length : Int)
  | [], r, _ => by simp [Lib.index, List.isPrefixOf]
  | x :: p, r, h => by
    simp only [List.mem_cons, not_or] at h
    have hp : ([c] : List UInt8).isPrefixOf (x :: (p ++ c :: r)) = false := by simp [List.isPrefixOf, h.1]
    show Lib.index (x :: (p ++ c :: r)) [c] = _
    rw [Lib.index, hp, index_at c p r h.2]
    have : ¬ ((p.length : Int) == -1) = true := by simp
    simp only [Bool.false_eq_true, if_false, this, List.length_cons]
    omega
theorem cut_at (c : UInt8) : ∀ (l : List UInt8), c ∈ l → ∃ p r, l = p ++ c :: r ∧ c ∉ p
  | [], h => by cases h
  | x :: l, h => by
    by_cases e : x = c
    · exact ⟨[], l, by simp [e], by simp⟩
    · obtain ⟨p, r, h1, h2⟩ := cut_at c l (by rcases List.mem_cons.1 h with h | h; exact absurd h.symm e; exact h)
      exact ⟨x :: p, r, by simp [h1], by simp only [List.mem_cons, not_or]; exact ⟨fun h => e h.symm, h2⟩⟩
theorem split_parts (c : UInt8) : ∀ (k : Nat) (l : List UInt8), l.count c = k → Lib.splitK [c] 0 k l = parts c l
  | 0, l, h => by rw [parts_none c l (List.count_eq_zero.1 h)]; rfl
  | k + 1, l, h => by
    have hm : c ∈ l := List.count_pos_iff.1 (by omega)
    obtain ⟨p, r, rfl, hp⟩ := cut_at c l hm
    rw [Lib.splitK, index_at c p r hp]
    have : ¬ ((p.length : Int) == -1) = true := by simp
    rw [if_neg this, parts_first c p r hp, Int.toNat_natCast, Nat.add_zero, List.take_left']
    · congr 1
      have hd : (p ++ c :: r).drop (p.length + [c].length) = r := by
        rw [← List.drop_drop, List.drop_left' rfl]; rfl
      rw [hd]
      refine split_parts c k r ?_
      rw [List.count_append, List.count_eq_zero.2 hp, List.count_cons_self] at h
      omega
    · rfl
theorem split_data (c : UInt8) (s : ByteArray) : (Lib.splitB ⟨#[c]⟩ 0 (Lib.countB s ⟨#[c]⟩) s).map (·.data.toList) = parts c s.data.toList := by
  rw [Lib.splitB_data]
  have : Lib.countB s ⟨#[c]⟩ = s.data.toList.count c := Lib.count_one c s.data.toList
  rw [this]
  exact split_parts c _ _ rfl

/-- Is a byte a digit? The number of digits. -/
def dig (c : UInt8) : Bool := decide (48 ≤ c.toNat) && decide (c.toNat ≤ 57)
def num (l : List UInt8) : Nat := l.foldl (fun n c => 10 * n + (c.toNat - 48)) 0
theorem num_snoc (l : List UInt8) (c : UInt8) : num (l ++ [c]) = 10 * num l + (c.toNat - 48) := by unfold num; rw [List.foldl_append]; rfl
/-- The number that a text is read as, from 0 to most. -/
def pint (l : List UInt8) (most : Int) : Int × Bool :=
  if l = [] ∨ 14 ≤ l.length ∨ (1 < l.length ∧ l.headD 0 = 48) ∨ l.all dig = false ∨ min most 1099511627776 < (num l : Int) then (0, false) else ((num l : Int), true)
theorem num_lt : ∀ (k : Nat) (l : List UInt8), l.length = k → l.all dig = true → num l < 10 ^ k
  | 0, l, h, _ => by rw [List.length_eq_zero_iff.1 h]; decide
  | k + 1, l, h, ha => by
    have hne : l ≠ [] := by rintro rfl; simp at h
    rw [← List.dropLast_concat_getLast hne] at ha ⊢
    rw [num_snoc]
    rw [List.all_append, Bool.and_eq_true] at ha
    have ih := num_lt k l.dropLast (by rw [List.length_dropLast]; omega) ha.1
    have hd := ha.2
    simp only [List.all_cons, List.all_nil, Bool.and_true, dig, Bool.and_eq_true, decide_eq_true_eq] at hd
    rw [Nat.pow_succ]
    omega
end MskM
end Go.Proofs.YticdpfjajkfheaaDoor

/- bits.Each as an iterator, slices.Collect over it, and mask.Fields: what each returns. -/
namespace Go.Proofs.YticdpfjajkfheaaDoor
set_option linter.unusedVariables false
open Go Go.RowKit Go.Shelf BitM
attribute [local go_sem] Oper.semAt_some

/-- The numbers of a set below k, rising. -/
def lst (x : BitVec 32) (k : Nat) : List Int := ((List.range k).filter fun i : Nat => has x (i : Int)).map fun i : Nat => (i : Int)
theorem lst_succ (x : BitVec 32) (k : Nat) : lst x (k + 1) = lst x k ++ if has x (k : Int) = true then [(k : Int)] else [] := by
  unfold lst
  rw [List.range_succ, List.filter_append, List.map_append]
  congr 1
  cases h : has x (k : Int) <;> simp [h]
theorem lst_len (x : BitVec 32) (k : Nat) : (lst x k).length ≤ k := by
  unfold lst
  rw [List.length_map]
  have := List.length_filter_le (fun i : Nat => has x (i : Int)) (List.range k)
  simpa using this
theorem lst_pre (x : BitVec 32) {j k : Nat} (h : j ≤ k) : lst x j <+: lst x k := by
  induction k with
  | zero => obtain rfl : j = 0 := by omega
            exact List.prefix_refl _
  | succ k ih =>
    by_cases e : j = k + 1
    · subst e; exact List.prefix_refl _
    · exact (ih (by omega)).trans (by rw [lst_succ]; exact List.prefix_append _ _)

theorem info_int : (Tryd.prog.info? 3).map (fun i => (i.zero, i.size, i.bytes)) = some (some (.int .i64 0), 1, 8) := by kernel_rfl

/-- The fields of a mask. -/
def flds (x : BitVec 32) : List Int := lst (x &&& 255#32) 32
theorem flds_len (x : BitVec 32) : (flds x).length ≤ 32 := lst_len _ _
end Go.Proofs.YticdpfjajkfheaaDoor
