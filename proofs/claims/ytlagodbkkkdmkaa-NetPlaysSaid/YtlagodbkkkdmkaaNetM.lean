/- Nets: the chapter's example. -/
import Derived.Test.YtlagodbkkkdmkaaNetL
namespace Go.Proofs.Ytlagodbkkkdmkaa
set_option linter.unusedVariables false
set_option linter.unusedSimpArgs false
open Go Go.RowKit Go.MuLone

theorem turn_blk {w w' : World} {g b : Nat} {r r' : Option Nat} {cs : List Value} (h : Blk w b cs) (hg : b ≠ g) (hr : some b ≠ r) (T : Turn2 w w' g r) (h' : r' = r ∨ ∀ k, r' = some k → w.heap.size ≤ k) : Blk w' b cs ∧ some b ≠ r' := by
  refine ⟨T.blk h hg hr, fun e => ?_⟩
  rcases h' with rfl | h'
  · exact hr e
  · have := h' b e.symm
    have := h.lt
    omega
def pa : V3 := (0, 0, ⟨#[97]⟩)
def pb : V3 := (0, 0, ⟨#[98]⟩)

set_option maxRecDepth 100000 in
set_option maxHeartbeats 3200000 in
theorem naw_any (w : World) : Calls Try.prog 23 #[] w fun e w' => e = .returned (.bool true) ∧ Below w.heap.size w w' := by
  have HN := Lib.hid (net_new w)
  obtain ⟨g, hg⟩ : ∃ g, g = w.heap.size := ⟨_, rfl⟩
  have HG := Lib.hid hg
  rw [← hg] at HN
  have hgw : w.heap.size ≤ g := by omega
  clear hg
  have S1 := Lib.hid (fun (wx : World) (r : Option Nat) (h : NetAt wx g 0 r []) => (show Calls Try.prog 25 #[.pointer (some ⟨g, 0, none⟩), .agg (vcells pa).toArray] wx (Put0 wx g r [pa] (.bool true)) from net_Send wx g r [] pa h))
  have S2 := Lib.hid (fun (wx : World) (r : Option Nat) (h : NetAt wx g 0 r [pa]) => (show Calls Try.prog 25 #[.pointer (some ⟨g, 0, none⟩), .agg (vcells pb).toArray] wx (Put0 wx g r [pa, pb] (.bool true)) from net_Send wx g r [pa] pb h))
  have S3 := Lib.hid (fun (wx : World) (r : Option Nat) (h : NetAt wx g 0 r [pa, pb]) => (show Calls Try.prog 30 #[.pointer (some ⟨g, 0, none⟩), .int .i64 0] wx (Put0 wx g r [pa, pb, pa] (.bool true)) from net_Twice wx g r [pa, pb] 0 h))
  have S4 := Lib.hid (fun (wx : World) (r : Option Nat) (h : NetAt wx g 0 r [pa, pb, pa]) => (show Calls Try.prog 28 #[.pointer (some ⟨g, 0, none⟩), .int .i64 0] wx (Put0 wx g r [pb, pa] (.tuple #[.agg (vcells pa).toArray, .bool true])) from take_yes wx g r [pa, pb, pa] 0 h (by decide) (by decide)))
  have S5 := Lib.hid (fun (wx : World) (r : Option Nat) (h : NetAt wx g 0 r [pb, pa]) => (show Calls Try.prog 32 #[.pointer (some ⟨g, 0, none⟩), .int .i64 0] wx (Put0 wx g r [pb, pa] (.tuple #[.agg (vcells pb).toArray, .bool true])) from net_Look wx g r [pb, pa] 0 h))
  have S6 := Lib.hid (fun (wx : World) (r : Option Nat) (h : NetAt wx g 0 r [pb, pa]) => (show Calls Try.prog 32 #[.pointer (some ⟨g, 0, none⟩), .int .i64 1] wx (Put0 wx g r [pb, pa] (.tuple #[.agg (vcells pa).toArray, .bool true])) from net_Look wx g r [pb, pa] 1 h))
  have S7 := Lib.hid (fun (wx : World) (r : Option Nat) (h : NetAt wx g 0 r [pb, pa]) => (net_len wx g r [pb, pa] h))
  go_enter Try.func23, Try.ntmps23
  go_wp2_with fail
  refine HN.out.mono ?_
  rintro e w1 ⟨rfl, N, hb⟩
  have hb := hb.mono hgw
  have hr : ∀ k, (none : Option Nat) = some k → w.heap.size ≤ k := by simp
  clear HN
  go_wp2_with fail
  refine (S1.out _ _ N).mono ?_
  rintro e w2 ⟨r2, rfl, N2, T, hr2⟩
  have hb2 := T.below (B := w.heap.size) hgw hr hb.size
  have hrx : ∀ k, r2 = some k → w.heap.size ≤ k := fun k hk => by
    rcases hr2 with e | e
    · exact hr k (e ▸ hk)
    · exact Nat.le_trans hb.size (e k hk)
  have hb := hb.trans hb2
  have hr := hrx
  have N := N2
  clear N2 T hr2 hb2 hrx S1
  go_wp2_with fail
  refine (S2.out _ _ N).mono ?_
  rintro e w3 ⟨r3, rfl, N2, T, hr3⟩
  have hb2 := T.below (B := w.heap.size) hgw hr hb.size
  have hrx : ∀ k, r3 = some k → w.heap.size ≤ k := fun k hk => by
    rcases hr3 with e | e
    · exact hr k (e ▸ hk)
    · exact Nat.le_trans hb.size (e k hk)
  have hb := hb.trans hb2
  have hr := hrx
  have N := N2
  clear N2 T hr3 hb2 hrx S2
  go_wp2_with fail
  refine (S3.out _ _ N).mono ?_
  rintro e w4 ⟨r4, rfl, N2, T, hr4⟩
  have hb2 := T.below (B := w.heap.size) hgw hr hb.size
  have hrx : ∀ k, r4 = some k → w.heap.size ≤ k := fun k hk => by
    rcases hr4 with e | e
    · exact hr k (e ▸ hk)
    · exact Nat.le_trans hb.size (e k hk)
  have hb := hb.trans hb2
  have hr := hrx
  have N := N2
  clear N2 T hr4 hb2 hrx S3
  go_wp2_with fail
  refine (S4.out _ _ N).mono ?_
  rintro e w5 ⟨r5, rfl, N2, T, hr5⟩
  have hb2 := T.below (B := w.heap.size) hgw hr hb.size
  have hrx : ∀ k, r5 = some k → w.heap.size ≤ k := fun k hk => by
    rcases hr5 with e | e
    · exact hr k (e ▸ hk)
    · exact Nat.le_trans hb.size (e k hk)
  have hb := hb.trans hb2
  have hr := hrx
  have N := N2
  clear N2 T hr5 hb2 hrx S4
  have hgl5 : g < w5.heap.size := by obtain ⟨A, c, BB, _⟩ := N; exact BB.lt
  have hw5 := N.row
  obtain ⟨W6, hW6⟩ : ∃ W, W = (w5.alloc (.cells #[.int .i64 0, .int .i64 0, .string ⟨#[]⟩] 59)).setCells w5.heap.size 0 (vcells pa) := ⟨_, rfl⟩
  obtain ⟨FW6, BW6, zW6⟩ := pk_put w5 W6 pa _ rfl hW6
  have THW6 := pk_there w5 3 rfl
  have HW6 := Lib.hid hW6
  have N := N.later BW6
  have hb := hb.trans (BW6.mono hb.size)
  clear hW6
  have hglW6 : g < W6.heap.size := by have := hb.size; obtain ⟨A, c, BB, _⟩ := N; have := BB.lt; omega
  have nFW6 : some w5.heap.size ≠ r5 := fun e => by have := hw5 _ e.symm; omega
  clear hw5
  go_wp2_with (first
    | (refine wpList_store_mid rfl 59 (.tmp 5) (.tmp 23) rfl w5.heap.size 0 (vcells pa).toArray rfl rfl THW6 info_pk (all_oneCell_toArray (vcells_one pa)) ?_
       rw [show (w5.alloc (.cells #[.int .i64 0, .int .i64 0, .string ⟨#[]⟩] 59)).setCells w5.heap.size 0 (vcells pa).toArray.toList = W6 from HW6.out.symm])
    | fail)
  refine (S5.out _ _ N).mono ?_
  rintro e w7 ⟨r7, rfl, N2, T, hr7⟩
  obtain ⟨FW6, nFW6⟩ := turn_blk FW6 (by omega) nFW6 T hr7
  have hb2 := T.below (B := w.heap.size) hgw hr hb.size
  have hrx : ∀ k, r7 = some k → w.heap.size ≤ k := fun k hk => by
    rcases hr7 with e | e
    · exact hr k (e ▸ hk)
    · exact Nat.le_trans hb.size (e k hk)
  have hb := hb.trans hb2
  have hr := hrx
  have N := N2
  clear N2 T hr7 hb2 hrx S5
  have hgl7 : g < w7.heap.size := by obtain ⟨A, c, BB, _⟩ := N; exact BB.lt
  have hw5 := N.row
  obtain ⟨W8, hW8⟩ : ∃ W, W = (w7.alloc (.cells #[.int .i64 0, .int .i64 0, .string ⟨#[]⟩] 59)).setCells w7.heap.size 0 (vcells pb) := ⟨_, rfl⟩
  obtain ⟨FW8, BW8, zW8⟩ := pk_put w7 W8 pb _ rfl hW8
  have THW8 := pk_there w7 3 rfl
  have HW8 := Lib.hid hW8
  have N := N.later BW8
  have hb := hb.trans (BW8.mono hb.size)
  clear hW8
  have hglW8 : g < W8.heap.size := by have := hb.size; obtain ⟨A, c, BB, _⟩ := N; have := BB.lt; omega
  have nFW8 : some w7.heap.size ≠ r7 := fun e => by have := hw5 _ e.symm; omega
  clear hw5
  have FW6 := FW6.later BW8
  go_wp2_with (first
    | (refine wpList_store_mid rfl 59 (.tmp 7) (.tmp 28) rfl w7.heap.size 0 (vcells pb).toArray rfl rfl THW8 info_pk (all_oneCell_toArray (vcells_one pb)) ?_
       rw [show (w7.alloc (.cells #[.int .i64 0, .int .i64 0, .string ⟨#[]⟩] 59)).setCells w7.heap.size 0 (vcells pb).toArray.toList = W8 from HW8.out.symm])
    | fail)
  refine (S6.out _ _ N).mono ?_
  rintro e w9 ⟨r9, rfl, N2, T, hr9⟩
  obtain ⟨FW6, nFW6⟩ := turn_blk FW6 (by omega) nFW6 T hr9
  obtain ⟨FW8, nFW8⟩ := turn_blk FW8 (by omega) nFW8 T hr9
  have hb2 := T.below (B := w.heap.size) hgw hr hb.size
  have hrx : ∀ k, r9 = some k → w.heap.size ≤ k := fun k hk => by
    rcases hr9 with e | e
    · exact hr k (e ▸ hk)
    · exact Nat.le_trans hb.size (e k hk)
  have hb := hb.trans hb2
  have hr := hrx
  have N := N2
  clear N2 T hr9 hb2 hrx S6
  have hgl9 : g < w9.heap.size := by obtain ⟨A, c, BB, _⟩ := N; exact BB.lt
  have hw5 := N.row
  obtain ⟨W10, hW10⟩ : ∃ W, W = (w9.alloc (.cells #[.int .i64 0, .int .i64 0, .string ⟨#[]⟩] 59)).setCells w9.heap.size 0 (vcells pa) := ⟨_, rfl⟩
  obtain ⟨FW10, BW10, zW10⟩ := pk_put w9 W10 pa _ rfl hW10
  have THW10 := pk_there w9 3 rfl
  have HW10 := Lib.hid hW10
  have N := N.later BW10
  have hb := hb.trans (BW10.mono hb.size)
  clear hW10
  have hglW10 : g < W10.heap.size := by have := hb.size; obtain ⟨A, c, BB, _⟩ := N; have := BB.lt; omega
  have nFW10 : some w9.heap.size ≠ r9 := fun e => by have := hw5 _ e.symm; omega
  clear hw5
  have FW6 := FW6.later BW10
  have FW8 := FW8.later BW10
  have c6 : W10.cell? ⟨w5.heap.size, 2, none⟩ = some (.string ⟨#[97]⟩) := FW6.cell rfl
  have c8 : W10.cell? ⟨w7.heap.size, 2, none⟩ = some (.string ⟨#[98]⟩) := FW8.cell rfl
  have c10 : W10.cell? ⟨w9.heap.size, 2, none⟩ = some (.string ⟨#[97]⟩) := FW10.cell rfl
  go_wp2_with (first
    | (refine wpList_store_mid rfl 59 (.tmp 9) (.tmp 33) rfl w9.heap.size 0 (vcells pa).toArray rfl rfl THW10 info_pk (all_oneCell_toArray (vcells_one pa)) ?_
       rw [show (w9.alloc (.cells #[.int .i64 0, .int .i64 0, .string ⟨#[]⟩] 59)).setCells w9.heap.size 0 (vcells pa).toArray.toList = W10 from HW10.out.symm])
    | fail)
  refine (S7.out _ _ N).mono ?_
  rintro e w11 ⟨rfl, _, T⟩
  have hb2 := hb.trans (T.below (B := w.heap.size) hgw hr hb.size)
  clear c6 c8 c10 FW6 FW8 FW10 N T S7 hb
  go_wp2_with fail
  go_ret
  exact ⟨rfl, hb2⟩
end Go.Proofs.Ytlagodbkkkdmkaa
