/- Tokens: the first; the bytes, by the document. -/
import Derived.Test.YticdpfjajkfheaaDoorM4
import Derived.Test.YticdpfjajkfheaaDoorM9
import Derived.Test.YticdpfjajkfheaaDoorM7
import Derived.Test.YticdpfjajkfheaaDoorM3
import Derived.Lib.SmallJoins
import Derived.Lib.ConvBytes
import Derived.Deep.Strs
namespace Go.Proofs.YticdpfjajkfheaaDoor
set_option linter.unusedVariables false
open Go Go.RowKit OctM

/-- A token's bytes. -/
def tbs (d p s c : Int) : List UInt8 := if tchk d p s c = false then [] else ((enc (held d) ++ enc (held p)) ++ enc (held s)) ++ enc (held c)

set_option maxRecDepth 100000 in
set_option maxHeartbeats 1600000 in
theorem tfirst_any (d p s : Int) (w : World) : Calls Tryd.prog 19 #[.int .i64 d, .int .i64 p, .int .i64 s] w fun e w' => e = .returned (.agg (tks d p s 0).toArray) ∧ Below w.heap.size w w' := by
  have hu := Tryd.underlying42
  have B := Blk.new w (tks 0 0 0 0) 42
  have hb := (Below.refl w.heap.size w).alloc (Nat.le_refl _) (.cells (tks 0 0 0 0).toArray 42)
  have T := B.there 0 4 (Nat.le_refl _)
  have FIN := B.wholeT (ds := tks d p s 0) rfl
  have H9 := below_sets (Nat.le_refl w.heap.size) (tks d p s 0) 0 hb
  have O := tks_one d p s 0
  clear B hb
  go_enter Tryd.func19, Tryd.ntmps19
  go_wp2_with (first
    | (refine wpList_store_mid rfl 42 (.tmp 6) (.tmp 10) rfl w.heap.size 0 (tks d p s 0).toArray rfl rfl T info_tok O ?_)
    | fail)
  exact bodyPost_ret (v := .agg (tks d p s 0).toArray) (tok_results (q := 6) rfl _ _ w.heap.size _ _ rfl FIN hu rfl info_tok) rfl ⟨rfl, H9⟩

set_option maxRecDepth 100000 in
set_option maxHeartbeats 3200000 in
theorem rtput_any (d p s c : Int) (w : World) : Calls Tryd.prog 24 #[.agg (tks d p s c).toArray] w fun e w' => e = .returned (.string (str (tbs d p s c))) ∧ Below w.heap.size w w' := by
  have HC := Lib.hid (fun wx : World => rtcheck_any d p s c wx)
  have hu := Tryd.underlying42
  have B := Blk.new w (tks d p s c) 42
  have hb := (Below.refl w.heap.size w).alloc (Nat.le_refl _) (.cells (tks d p s c).toArray 42)
  have HP : Hid (∀ wx, Blk wx w.heap.size (tks d p s c) → wx.cell? ⟨w.heap.size, 0, none⟩ = some (.int .i64 d) ∧ wx.cell? ⟨w.heap.size, 1, none⟩ = some (.int .i64 p) ∧ wx.cell? ⟨w.heap.size, 2, none⟩ = some (.int .i64 s) ∧ wx.cell? ⟨w.heap.size, 3, none⟩ = some (.int .i64 c)) := Lib.hid fun wx h => ⟨h.cell rfl, h.cell rfl, h.cell rfl, h.cell rfl⟩
  obtain ⟨ok, hok⟩ : ∃ z, z = tchk d p s c := ⟨_, rfl⟩
  rw [← hok] at HC
  obtain ⟨R, hR⟩ : ∃ z, z = str (tbs d p s c) := ⟨_, rfl⟩
  rw [← hR]
  obtain ⟨s1, hs1⟩ : ∃ z, z = str (enc (held d)) := ⟨_, rfl⟩
  obtain ⟨s2, hs2⟩ : ∃ z, z = str (enc (held p)) := ⟨_, rfl⟩
  obtain ⟨s3, hs3⟩ : ∃ z, z = str (enc (held s)) := ⟨_, rfl⟩
  obtain ⟨s4, hs4⟩ : ∃ z, z = str (enc (held c)) := ⟨_, rfl⟩
  have z1 : s1.size ≤ 6 := by rw [hs1, str_size]; exact held_len _
  have z2 : s2.size ≤ 6 := by rw [hs2, str_size]; exact held_len _
  have z3 : s3.size ≤ 6 := by rw [hs3, str_size]; exact held_len _
  have z4 : s4.size ≤ 6 := by rw [hs4, str_size]; exact held_len _
  have HN1 := Lib.hid (fun wx : World => ref_num d wx)
  have HN2 := Lib.hid (fun wx : World => ref_num p wx)
  have HN3 := Lib.hid (fun wx : World => ref_num s wx)
  have HN4 := Lib.hid (fun wx : World => ref_num c wx)
  rw [← hs1] at HN1
  rw [← hs2] at HN2
  rw [← hs3] at HN3
  rw [← hs4] at HN4
  have HRF : Hid (ok = false → R = ⟨#[]⟩) := Lib.hid fun h => by rw [hR]; unfold tbs; rw [if_pos (by rw [← hok]; exact h)]; rfl
  have HRT : Hid (ok = true → R = s1 ++ s2 ++ s3 ++ s4) := Lib.hid fun h => by rw [hR]; unfold tbs; rw [if_neg (by rw [← hok, h]; simp), hs1, hs2, hs3, hs4]; simp only [str_append]
  obtain ⟨pc, hpc⟩ : ∃ pc, pc = tks d p s c := ⟨_, rfl⟩
  rw [← hpc] at B hb HC HP ⊢
  have HL : Hid (pc.length = 4) := Lib.hid (by rw [hpc]; rfl)
  clear hpc hok hR hs1 hs2 hs3 hs4
  have RG := B.range 0 pc (by rw [List.drop_zero, List.take_length])
  cases ok
  all_goals
    go_enter Tryd.func24, Tryd.ntmps24
    go_wp2_with (first
      | (refine wpList_load_mid rfl 42 (.tmp 1) rfl w.heap.size 0 rfl pc _ RG hu rfl (by rw [HL.out]; exact info_tok) ?_)
      | fail)
    refine (HC.out _).mono ?_
    rintro e w1 ⟨rfl, hb1⟩
    replace B := B.later hb1
    replace hb := hb.trans (hb1.mono hb.size)
    clear RG hb1
  · go_wp2_with fail
    go_ret
    exact ⟨by rw [HRF.out (by first | rfl | trivial)]; rfl, hb⟩
  · have c0 : ∀ kk : LW w1, kk.val.cell? ⟨w.heap.size, 0, none⟩ = some (.int .i64 d) := fun kk => (HP.out _ (B.later kk.le)).1
    have c1 : ∀ kk : LW w1, kk.val.cell? ⟨w.heap.size, 1, none⟩ = some (.int .i64 p) := fun kk => (HP.out _ (B.later kk.le)).2.1
    have c2 : ∀ kk : LW w1, kk.val.cell? ⟨w.heap.size, 2, none⟩ = some (.int .i64 s) := fun kk => (HP.out _ (B.later kk.le)).2.2.1
    have c3 : ∀ kk : LW w1, kk.val.cell? ⟨w.heap.size, 3, none⟩ = some (.int .i64 c) := fun kk => (HP.out _ (B.later kk.le)).2.2.2
    go_wp2_with fail
    refine wp_region_steady [] 21 (by kernel_rfl) (by kernel_rfl) (by kernel_rfl) (by rfl) ?_
    iterate 2 (refine wpG_quiet (by rfl) (by rfl) (by rfl) (fun K hK => ?_); go_big_quiet_op; refine hK _ ?_; clear hK K)
    refine wpG_call (by rfl) (by rfl) 46 #[.int .i64 d] (.string s1) (by intro _; simp [go_sem]) (by kernel_rfl) (fun w1 hl => HN1.out w1) ?_
    simp only [Act.put, List.setIfInBounds_toArray, List.set_cons_zero, List.set_cons_succ]
    iterate 2 (refine wpG_quiet (by rfl) (by rfl) (by rfl) (fun K hK => ?_); go_big_quiet_op; refine hK _ ?_; clear hK K)
    refine wpG_call (by rfl) (by rfl) 46 #[.int .i64 p] (.string s2) (by intro _; simp [go_sem]) (by kernel_rfl) (fun w1 hl => HN2.out w1) ?_
    simp only [Act.put, List.setIfInBounds_toArray, List.set_cons_zero, List.set_cons_succ]
    iterate 3 (refine wpG_quiet (by rfl) (by rfl) (by rfl) (fun K hK => ?_); go_big_quiet_op; refine hK _ ?_; clear hK K)
    refine wpG_call (by rfl) (by rfl) 46 #[.int .i64 s] (.string s3) (by intro _; simp [go_sem]) (by kernel_rfl) (fun w1 hl => HN3.out w1) ?_
    simp only [Act.put, List.setIfInBounds_toArray, List.set_cons_zero, List.set_cons_succ]
    iterate 3 (refine wpG_quiet (by rfl) (by rfl) (by rfl) (fun K hK => ?_); go_big_quiet_op; refine hK _ ?_; clear hK K)
    refine wpG_call (by rfl) (by rfl) 46 #[.int .i64 c] (.string s4) (by intro _; simp [go_sem]) (by kernel_rfl) (fun w1 hl => HN4.out w1) ?_
    simp only [Act.put, List.setIfInBounds_toArray, List.set_cons_zero, List.set_cons_succ]
    iterate 2 (refine wpG_quiet (by rfl) (by rfl) (by rfl) (fun K hK => ?_); go_big_quiet_op; refine hK _ ?_; clear hK K)
    refine wpG_nil fun w2 hl _ => ?_
    go_wp2_with fail
    go_ret
    exact ⟨by rw [HRT.out (by first | rfl | trivial)]; rfl, hb.trans (hl.mono hb.size)⟩
end Go.Proofs.YticdpfjajkfheaaDoor

/- Tokens: their bytes, by the program. -/
namespace Go.Proofs.YticdpfjajkfheaaDoor
set_option linter.unusedVariables false
open Go Go.RowKit OctM

theorem tbs_len (d p s c : Int) : (tbs d p s c).length ≤ 24 := by
  unfold tbs
  split
  · simp
  · have h1 := held_len d
    have h2 := held_len p
    have h3 := held_len s
    have h4 := held_len c
    simp only [List.length_append]
    omega

set_option maxRecDepth 100000 in
set_option maxHeartbeats 3200000 in
theorem tput_any (d p s c : Int) (A : Option Addr) (n c0 : Nat) (l : List UInt8) (w : World) (hn : l.length = n) (hs : Sees w w.heap.size A (bvs l)) (hm : n ≤ 10000) :
    Calls Tryd.prog 23 #[.slice A n c0, .agg (tks d p s c).toArray] w (SeesBytes w (l ++ tbs d p s c)) := by
  have HC := Lib.hid (fun wx : World => tcheck_any d p s c wx)
  have HCL := Lib.hid (fun (wx : World) (hb : Below w.heap.size w wx) => clone_any A n c0 l wx hn ((hs.below hb).more hb.size) (by omega))
  have HSA := Lib.hid (fun (wx : World) (hb : Below w.heap.size w wx) => (hs.below hb).more hb.size)
  have hu := Tryd.underlying42
  have B := Blk.new w (tks d p s c) 42
  have hb := (Below.refl w.heap.size w).alloc (Nat.le_refl _) (.cells (tks d p s c).toArray 42)
  have HP : Hid (∀ wx, Blk wx w.heap.size (tks d p s c) → wx.cell? ⟨w.heap.size, 0, none⟩ = some (.int .i64 d) ∧ wx.cell? ⟨w.heap.size, 1, none⟩ = some (.int .i64 p) ∧ wx.cell? ⟨w.heap.size, 2, none⟩ = some (.int .i64 s) ∧ wx.cell? ⟨w.heap.size, 3, none⟩ = some (.int .i64 c)) := Lib.hid fun wx h => ⟨h.cell rfl, h.cell rfl, h.cell rfl, h.cell rfl⟩
  obtain ⟨ok, hok⟩ : ∃ z, z = tchk d p s c := ⟨_, rfl⟩
  rw [← hok] at HC
  obtain ⟨R, hR⟩ : ∃ z, z = l ++ tbs d p s c := ⟨_, rfl⟩
  rw [← hR]
  obtain ⟨r1, hr1⟩ : ∃ r, r = l ++ enc (held d) := ⟨_, rfl⟩
  obtain ⟨r2, hr2⟩ : ∃ r, r = r1 ++ enc (held p) := ⟨_, rfl⟩
  obtain ⟨r3, hr3⟩ : ∃ r, r = r2 ++ enc (held s) := ⟨_, rfl⟩
  obtain ⟨r4, hr4⟩ : ∃ r, r = r3 ++ enc (held c) := ⟨_, rfl⟩
  have e1 : r1.length ≤ n + 6 := by rw [hr1, List.length_append, hn]; have := held_len d; omega
  have e2 : r2.length ≤ n + 12 := by rw [hr2, List.length_append]; have := held_len p; omega
  have e3 : r3.length ≤ n + 18 := by rw [hr3, List.length_append]; have := held_len s; omega
  have HN1 : Hid (∀ (wx : World), Sees wx wx.heap.size A (bvs l) → Calls Tryd.prog 45 #[.slice A n c0, .int .i64 d] wx (GivesBytes wx r1)) := Lib.hid (fun wx hs' => by
    have h := oct_num A n c0 l d wx hn hs' (by omega)
    rw [← hr1] at h; exact h)
  obtain ⟨n1, hn1⟩ : ∃ n, n = r1.length := ⟨_, rfl⟩
  obtain ⟨n2, hn2⟩ : ∃ n, n = r2.length := ⟨_, rfl⟩
  obtain ⟨n3, hn3⟩ : ∃ n, n = r3.length := ⟨_, rfl⟩
  obtain ⟨n4, hn4⟩ : ∃ n, n = r4.length := ⟨_, rfl⟩
  have HN2 : Hid (∀ (A' : Option Addr) (c' : Nat) (wx : World), Sees wx wx.heap.size A' (bvs r1) → Calls Tryd.prog 45 #[.slice A' n1 c', .int .i64 p] wx (GivesBytes wx r2)) := Lib.hid (fun A' c' wx hs' => by
    have h := oct_num A' n1 c' r1 p wx hn1.symm hs' (by omega)
    rw [← hr2] at h; exact h)
  have HN3 : Hid (∀ (A' : Option Addr) (c' : Nat) (wx : World), Sees wx wx.heap.size A' (bvs r2) → Calls Tryd.prog 45 #[.slice A' n2 c', .int .i64 s] wx (GivesBytes wx r3)) := Lib.hid (fun A' c' wx hs' => by
    have h := oct_num A' n2 c' r2 s wx hn2.symm hs' (by omega)
    rw [← hr3] at h; exact h)
  have HN4 : Hid (∀ (A' : Option Addr) (c' : Nat) (wx : World), Sees wx wx.heap.size A' (bvs r3) → Calls Tryd.prog 45 #[.slice A' n3 c', .int .i64 c] wx (GivesBytes wx r4)) := Lib.hid (fun A' c' wx hs' => by
    have h := oct_num A' n3 c' r3 c wx hn3.symm hs' (by omega)
    rw [← hr4] at h; exact h)
  have M1 := Lib.hid hn1
  have M2 := Lib.hid hn2
  have M3 := Lib.hid hn3
  have M4 := Lib.hid hn4
  have HRF : Hid (ok = false → R = l) := Lib.hid fun h => by rw [hR]; unfold tbs; rw [if_pos (by rw [← hok]; exact h)]; simp
  have HRT : Hid (ok = true → R = r4) := Lib.hid fun h => by rw [hR]; unfold tbs; rw [if_neg (by rw [← hok, h]; simp), hr4, hr3, hr2, hr1]; simp only [List.append_assoc]
  have HNL := Lib.hid hn
  obtain ⟨pc, hpc⟩ : ∃ pc, pc = tks d p s c := ⟨_, rfl⟩
  rw [← hpc] at B hb HC HP ⊢
  have HL : Hid (pc.length = 4) := Lib.hid (by rw [hpc]; rfl)
  clear hpc hok hR hr1 hr2 hr3 hr4 hn1 hn2 hn3 hn4 e1 e2 e3 hs hn
  have RG := B.range 0 pc (by rw [List.drop_zero, List.take_length])
  cases ok
  all_goals
    go_enter Tryd.func23, Tryd.ntmps23
    go_wp2_with (first
      | (refine wpList_load_mid rfl 42 (.tmp 3) rfl w.heap.size 0 rfl pc _ RG hu rfl (by rw [HL.out]; exact info_tok) ?_)
      | fail)
    refine (HC.out _).mono ?_
    rintro e w1 ⟨rfl, hb1⟩
    replace B := B.later hb1
    replace hb := hb.trans (hb1.mono hb.size)
    clear RG hb1
  · go_wp2_with fail
    refine (HCL.out _ hb).mono ?_
    rintro e w2 ⟨A2, c2, rfl, ho, hb2⟩
    go_wp2_with fail
    go_ret
    exact ⟨A2, c2, by rw [HRF.out (by first | rfl | trivial)]; rfl, by rw [HRF.out (by first | rfl | trivial)]; exact ho.sees, hb.trans (hb2.mono hb.size)⟩
  · skip
    have k0 : ∀ kk : LW w1, kk.val.cell? ⟨w.heap.size, 0, none⟩ = some (.int .i64 d) := fun kk => (HP.out _ (B.later kk.le)).1
    have k1 : ∀ kk : LW w1, kk.val.cell? ⟨w.heap.size, 1, none⟩ = some (.int .i64 p) := fun kk => (HP.out _ (B.later kk.le)).2.1
    have k2 : ∀ kk : LW w1, kk.val.cell? ⟨w.heap.size, 2, none⟩ = some (.int .i64 s) := fun kk => (HP.out _ (B.later kk.le)).2.2.1
    have k3 : ∀ kk : LW w1, kk.val.cell? ⟨w.heap.size, 3, none⟩ = some (.int .i64 c) := fun kk => (HP.out _ (B.later kk.le)).2.2.2
    go_wp2_with fail
    refine wp_region_steady [(13, relSee n1 r1), (16, relSee n2 r2), (19, relSee n3 r3), (22, relSee n4 r4), (4, relSee n4 r4)] 23 (by kernel_rfl) (by kernel_rfl) (by kernel_rfl) (by rfl) ?_
    iterate 3 (refine wpG_quiet (by rfl) (by rfl) (by rfl) (fun K hK => ?_); go_big_quiet_op; refine hK _ ?_; clear hK K)
    refine wpG_calls (relSee n1 r1) (by rfl) (by rfl) 45 #[.slice A n c0, .int .i64 d] (by intro _; simp [go_sem]) (fun w1 hl => (HN1.out w1 (HSA.out _ (hb.trans (hl.1.mono hb.size)))).mono fun e w' h => gives_see M1.out.symm h) ?_
    rintro _ ⟨_, _, _, ⟨A1, c1, rfl, _⟩⟩
    simp only [Act.put, List.setIfInBounds_toArray, List.set_cons_zero, List.set_cons_succ]
    iterate 2 (refine wpG_quiet (by rfl) (by rfl) (by rfl) (fun K hK => ?_); go_big_quiet_op; refine hK _ ?_; clear hK K)
    refine wpG_calls (relSee n2 r2) (by rfl) (by rfl) 45 #[.slice A1 n1 c1, .int .i64 p] (by intro _; simp [go_sem]) (fun w1 hl => ?_) ?_
    · obtain ⟨A2, c2, h2, s2⟩ := hl.2 13 _ (by simp [Op.operands, Call.operands]) rfl (by intro h; cases h)
      cases h2
      exact (HN2.out _ _ _ s2).mono fun e w' h => gives_see M2.out.symm h
    rintro _ ⟨_, _, _, ⟨A2, c2, rfl, _⟩⟩
    simp only [Act.put, List.setIfInBounds_toArray, List.set_cons_zero, List.set_cons_succ]
    iterate 2 (refine wpG_quiet (by rfl) (by rfl) (by rfl) (fun K hK => ?_); go_big_quiet_op; refine hK _ ?_; clear hK K)
    refine wpG_calls (relSee n3 r3) (by rfl) (by rfl) 45 #[.slice A2 n2 c2, .int .i64 s] (by intro _; simp [go_sem]) (fun w1 hl => ?_) ?_
    · obtain ⟨A3, c3, h2, s2⟩ := hl.2 16 _ (by simp [Op.operands, Call.operands]) rfl (by intro h; cases h)
      cases h2
      exact (HN3.out _ _ _ s2).mono fun e w' h => gives_see M3.out.symm h
    rintro _ ⟨_, _, _, ⟨A3, c3, rfl, _⟩⟩
    simp only [Act.put, List.setIfInBounds_toArray, List.set_cons_zero, List.set_cons_succ]
    iterate 2 (refine wpG_quiet (by rfl) (by rfl) (by rfl) (fun K hK => ?_); go_big_quiet_op; refine hK _ ?_; clear hK K)
    refine wpG_calls (relSee n4 r4) (by rfl) (by rfl) 45 #[.slice A3 n3 c3, .int .i64 c] (by intro _; simp [go_sem]) (fun w1 hl => ?_) ?_
    · obtain ⟨A4, c4, h2, s2⟩ := hl.2 19 _ (by simp [Op.operands, Call.operands]) rfl (by intro h; cases h)
      cases h2
      exact (HN4.out _ _ _ s2).mono fun e w' h => gives_see M4.out.symm h
    rintro _ ⟨_, _, _, ⟨A4, c4, rfl, _⟩⟩
    simp only [Act.put, List.setIfInBounds_toArray, List.set_cons_zero, List.set_cons_succ]
    refine wpG_open (relSee n4 r4) (by rfl) (by rfl) (fun w1 hl => assign_gives (relSee n4 r4) (.tmp 22) rfl w1 ?_) ?_
    · exact hl.2 22 _ (by simp [Op.operands]) rfl (by intro h; cases h)
    rintro _ ⟨_, _, _, ⟨A5, c5, rfl, _⟩⟩
    simp only [Act.put, List.setIfInBounds_toArray, List.set_cons_zero, List.set_cons_succ]
    refine wpG_nil fun w2 hl hs1 => ?_
    obtain ⟨_, A6, c6, eq6, s6⟩ := hs1
    cases eq6
    clear k0 k1 k2 k3
    go_wp2_with fail
    go_ret
    exact ⟨A5, c5, by rw [HRT.out (by first | rfl | trivial), ← M4.out]; rfl, by rw [HRT.out (by first | rfl | trivial)]; exact s6, hb.trans (hl.mono hb.size)⟩
end Go.Proofs.YticdpfjajkfheaaDoor

/- What the frame gives of a token, and of three; the walk's own helps: a conversion that makes memory. -/
namespace Go.Proofs.YticdpfjajkfheaaDoor
set_option linter.unusedVariables false
open Go Go.RowKit OctM

section
variable {H : Type} {enc : TypeId × Value → H} {W : World}
theorem list4 {α : Type} {l : List α} {a b c d : α} (hl : l.length = 4) (h0 : (l.drop 0).take 1 = [a]) (h1 : (l.drop 1).take 1 = [b]) (h2 : (l.drop 2).take 1 = [c]) (h3 : (l.drop 3).take 1 = [d]) : l = [a, b, c, d] := by
  match l, hl with
  | [x, y, z, u], _ => simp at h0 h1 h2 h3; rw [h0, h1, h2, h3]
def i64r (a : Int) : Prop := -9223372036854775808 ≤ a ∧ a ≤ 9223372036854775807
theorem trod_tok {sp : Nat → Bool} {held : Bool} {n : Nat} {cs : List Value} {x : DataW H × List MemPlace} (h : DataW.trod enc Tryd.prog W 0 sp held n 42 cs = some x) : ∃ a b c d : Int, cs = tks a b c d ∧ i64r a ∧ i64r b ∧ i64r c ∧ i64r d := by
  obtain ⟨y0, y1, y2, y3, m, _, hl, h0, h1, h2, h3⟩ := Go.Joins.trod_struct4 Tryd.underlying42 h
  have c1 : Tryd.prog.cellsOf 3 = 1 := by kernel_rfl
  have c4 : Tryd.prog.cellsOf 42 = 4 := by kernel_rfl
  rw [c4] at hl
  simp only [c1] at h0 h1 h2 h3
  obtain ⟨a, e0, _, w0⟩ := DataW.trod_int Tryd.underlying3 h0
  obtain ⟨b, e1, _, w1⟩ := DataW.trod_int Tryd.underlying3 h1
  obtain ⟨c, e2, _, w2⟩ := DataW.trod_int Tryd.underlying3 h2
  obtain ⟨d, e3, _, w3⟩ := DataW.trod_int Tryd.underlying3 h3
  exact ⟨a, b, c, d, list4 hl e0 e1 e2 e3, i64_wf w0, i64_wf w1, i64_wf w2, i64_wf w3⟩
set_option maxRecDepth 10000 in
theorem open_tok {r : Reach} {base : Nat} {v : Value} {d : DataW H} {ps : List MemPlace}
    (hv : Value.okWide Tryd.prog W r base 42 v) (h : DataW.Trod enc Tryd.prog W 0 (fun _ => true) true 42 v d ps) :
    ∃ a b c d : Int, v = .agg (tks a b c d).toArray ∧ i64r a ∧ i64r b ∧ i64r c ∧ i64r d := by
  simp only [Value.okWide, Tryd.underlying42] at hv
  obtain ⟨cs, rfl, hrest⟩ := hv
  obtain ⟨fuel, hf⟩ := h
  obtain ⟨a, b, c, d, e, r0⟩ := trod_tok hf
  refine ⟨a, b, c, d, ?_, r0⟩
  congr 1
  apply Array.toList_inj.1
  simpa [Value.cells] using e
set_option maxRecDepth 10000 in
theorem open_toks {r : Reach} {base : Nat} {v : Value} {d : DataW H} {ps : List MemPlace}
    (hv : Value.okWide Tryd.prog W r base 62 v) (h : DataW.Trod enc Tryd.prog W 0 (fun _ => true) true 62 v d ps) :
    ∃ a b c d e f g i j k l m : Int, v = .agg (tks a b c d ++ tks e f g i ++ tks j k l m).toArray := by
  simp only [Value.okWide, Tryd.underlying62] at hv
  obtain ⟨cs, rfl, hrest⟩ := hv
  obtain ⟨fuel, hf⟩ := h
  obtain ⟨xs, m, _, _, hl, hxl, heach⟩ := DataW.trod_array Tryd.underlying62 hf
  have c4 : Tryd.prog.cellsOf 42 = 4 := by kernel_rfl
  have c12 : Tryd.prog.cellsOf 62 = 12 := by kernel_rfl
  rw [c12] at hl
  simp only [Value.cells] at hl
  simp only [c4] at heach
  have key : ∀ i, i < 3 → ∃ a b c d : Int, (cs.toList.drop (i * 4)).take 4 = tks a b c d := fun i hi => by
    have h1 := heach i hi
    rw [List.getElem?_eq_getElem (by rw [hxl]; exact hi)] at h1
    obtain ⟨a, b, c, d, e, _⟩ := trod_tok h1
    exact ⟨a, b, c, d, by simpa only [Value.cells] using e⟩
  obtain ⟨a, b, c, d, e1⟩ := key 0 (by omega)
  obtain ⟨e, f, g, i, e2⟩ := key 1 (by omega)
  obtain ⟨j, k, l, m2, e3⟩ := key 2 (by omega)
  refine ⟨a, b, c, d, e, f, g, i, j, k, l, m2, ?_⟩
  congr 1
  apply Array.toList_inj.1
  have h4 : cs.toList = cs.toList.take 4 ++ (cs.toList.drop 4).take 4 ++ (cs.toList.drop 8).take 4 := by
    rw [List.append_assoc]
    conv => lhs; rw [← List.take_append_drop 4 cs.toList, ← List.take_append_drop 4 (cs.toList.drop 4), List.drop_drop]
    rw [List.take_of_length_le (l := cs.toList.drop 8) (by rw [List.length_drop, hl]; omega)]
  rw [h4]
  simp only [Nat.zero_mul, List.drop_zero, Nat.one_mul, Nat.reduceMul] at e1 e2 e3
  rw [e1, e2, e3]
end

section
variable {P : Program} {ops : Array Oper} {rest : List Oper} {op : Oper} {a : Act} {w w1 : World} {Q : Exit → Act → World → Prop}
theorem wpList_execw (hw : Region.wanted op (yielded ops a.tmps) = true) (v : Value) (he : (execOp a.eval op).run P w = .ok (.value v) w1)
    (h : wpList P ops Q rest (a.put op.dst v) w1) : wpList P ops Q (op :: rest) a w :=
  wpList_step fun K hK => by
    rw [if_pos hw]
    unfold Oper.wp
    rw [he]
    exact hK _ _ h
theorem exec_convw (x : Operand) (t u : TypeId) (ho : op.op = .convert t u x) (v : Value) (hx : a.eval x = v) (r : Value) (h : (convert t u v).run P w = .ok r w1) : (execOp a.eval op).run P w = .ok (.value r) w1 := by
  unfold execOp
  simp only [ho, hx, Sem.run_bind, Sem.run_pure, Result.andThen_ok, h]
end
/-- []byte(s): the slice, and what it sees. -/
theorem bytes_conv (w : World) (s : ByteArray) : ∃ c w1, (convert 9 48 (.string s)).run Tryd.prog w = .ok (.slice (some ⟨w.heap.size, 0, none⟩) s.size c) w1 ∧ Below w.heap.size w w1 ∧ Sees w1 w1.heap.size (some ⟨w.heap.size, 0, none⟩) (bvs s.data.toList) := by
  refine ⟨_, _, Lib.run_convert_string_bytes (P := Tryd.prog) w 9 48 5 s Tryd.underlying9 Tryd.underlying48 Tryd.underlying5, below_bytes w _ s, ?_⟩
  intro _
  refine ⟨_, _, rfl, by rw [Lib.bytesWorld_size]; omega, fun j hj => ?_⟩
  rw [bvs_length] at hj
  have h := Lib.bytesWorld_cell w 5 s j (by simpa using hj)
  rw [Nat.zero_add, h]
  have e : s.data.toList.getD j 0 = s.data.toList[j] := by rw [List.getD_eq_getElem?_getD, List.getElem?_eq_getElem hj]; rfl
  rw [e]
  simp [bvs, bv]
theorem str_conv' (w : World) (B : Nat) (A : Option Addr) (n c : Nat) (l : List UInt8) (s : ByteArray) (hn : l.length = n) (hs : Sees w B A (bvs l)) (h : s = str l) : (convert 48 9 (.slice A n c)).run Tryd.prog w = .ok (.string s) w := by
  subst h
  exact run_str (P := Tryd.prog) w B 48 5 9 Tryd.underlying48 Tryd.underlying5 Tryd.underlying9 A n c l hn hs
end Go.Proofs.YticdpfjajkfheaaDoor

/- Tokens: whether the layer is awake. -/
namespace Go.Proofs.YticdpfjajkfheaaDoor
set_option linter.unusedVariables false
open Go Go.RowKit OctM

set_option maxRecDepth 100000 in
set_option maxHeartbeats 1600000 in
theorem tcheck_lit (w : World) : Calls Tryd.prog 17 #[.agg (tks 2 1 7 1073741824).toArray] w fun e w' => e = .returned (.bool true) ∧ Below w.heap.size w w' := by
  have B := Blk.new w (tks 2 1 7 1073741824) 42
  have hb := (Below.refl w.heap.size w).alloc (Nat.le_refl _) (.cells (tks 2 1 7 1073741824).toArray 42)
  obtain ⟨pc, hpc⟩ : ∃ pc, pc = tks 2 1 7 1073741824 := ⟨_, rfl⟩
  rw [← hpc] at B hb ⊢
  have p0 : (w.alloc (.cells pc.toArray 42)).cell? ⟨w.heap.size, 0, none⟩ = some (.int .i64 2) := B.cell (by rw [hpc]; rfl)
  have p1 : (w.alloc (.cells pc.toArray 42)).cell? ⟨w.heap.size, 1, none⟩ = some (.int .i64 1) := B.cell (by rw [hpc]; rfl)
  have p2 : (w.alloc (.cells pc.toArray 42)).cell? ⟨w.heap.size, 2, none⟩ = some (.int .i64 7) := B.cell (by rw [hpc]; rfl)
  have p3 : (w.alloc (.cells pc.toArray 42)).cell? ⟨w.heap.size, 3, none⟩ = some (.int .i64 1073741824) := B.cell (by rw [hpc]; rfl)
  clear hpc B
  go_enter Tryd.func17, Tryd.ntmps17
  go_wp2_with fail
  go_ret
  exact ⟨rfl, hb⟩

set_option maxRecDepth 100000 in
set_option maxHeartbeats 1600000 in
theorem twhole_lit (w : World) : Calls Tryd.prog 20 #[.agg (tks 2 1 7 1073741824).toArray] w fun e w' => e = .returned (.bool true) ∧ Below w.heap.size w w' := by
  have HC := Lib.hid (fun wx : World => tcheck_lit wx)
  have hu := Tryd.underlying42
  have B := Blk.new w (tks 2 1 7 1073741824) 42
  have hb := (Below.refl w.heap.size w).alloc (Nat.le_refl _) (.cells (tks 2 1 7 1073741824).toArray 42)
  obtain ⟨pc, hpc⟩ : ∃ pc, pc = tks 2 1 7 1073741824 := ⟨_, rfl⟩
  rw [← hpc] at B hb HC ⊢
  have hl : pc.length = 4 := by rw [hpc]; rfl
  have h3 : pc[3]? = some (.int .i64 1073741824) := by rw [hpc]; rfl
  have HL := Lib.hid hl
  have H3 := Lib.hid h3
  clear hpc hl h3
  have RG := B.range 0 pc (by rw [List.drop_zero, List.take_length])
  go_enter Tryd.func20, Tryd.ntmps20
  go_wp2_with (first
    | (refine wpList_load_mid rfl 42 (.tmp 1) rfl w.heap.size 0 rfl pc _ RG hu rfl (by rw [HL.out]; exact info_tok) ?_)
    | fail)
  refine (HC.out _).mono ?_
  rintro e w1 ⟨rfl, hb1⟩
  have p3 := (B.later hb1).cell H3.out
  have hbw := hb.trans (hb1.mono hb.size)
  clear RG B hb1 hb
  go_wp2_with fail
  go_ret
  exact ⟨rfl, hbw⟩

theorem itoa_2 : Lib.itoa 2 = [50] := by decide +kernel
theorem itoa_1 : Lib.itoa 1 = [49] := by decide +kernel
theorem itoa_7 : Lib.itoa 7 = [55] := by decide +kernel
theorem join_lit : Lib.join (([⟨#[50]⟩, ⟨#[49]⟩, ⟨#[55]⟩, ⟨#[97, 108, 108]⟩] : List ByteArray).map (·.data.toList)) [46] = [50, 46, 49, 46, 55, 46, 97, 108, 108] := by decide +kernel

set_option maxRecDepth 100000 in
set_option maxHeartbeats 3200000 in
theorem tshow_lit (w : World) (ht : Tab w) : Calls Tryd.prog 25 #[.agg (tks 2 1 7 1073741824).toArray] w fun e w' => e = .returned (.string ⟨#[50, 46, 49, 46, 55, 46, 97, 108, 108]⟩) ∧ Below w.heap.size w w' := by
  have HC := Lib.hid (fun wx : World => tcheck_lit wx)
  have HW := Lib.hid (fun wx : World => twhole_lit wx)
  have HT := Lib.hid (fun (n : Int) (wx : World) (h0 : -9223372036854775808 ≤ n) (h1 : n ≤ 9223372036854775807) (hb : Below w.heap.size w wx) => tens_any n wx h0 h1 (ht.later hb))
  have hu := Tryd.underlying42
  have B := Blk.new w (tks 2 1 7 1073741824) 42
  have hb := (Below.refl w.heap.size w).alloc (Nat.le_refl _) (.cells (tks 2 1 7 1073741824).toArray 42)
  have HT3 : Hid (∀ wx, Below w.heap.size w wx → Calls Tryd.prog 47 #[.int .i64 1073741824] wx fun e w' => e = .returned (.string (str (Lib.itoa 1073741824))) ∧ Below wx.heap.size wx w') := Lib.hid fun wx hb => HT.out 1073741824 wx (by omega) (by omega) hb
  have HT0 : Hid (∀ wx, Below w.heap.size w wx → Calls Tryd.prog 47 #[.int .i64 2] wx fun e w' => e = .returned (.string ⟨#[50]⟩) ∧ Below wx.heap.size wx w') := Lib.hid fun wx hb => by have h := HT.out 2 wx (by omega) (by omega) hb; rw [itoa_2] at h; exact h
  have HT1 : Hid (∀ wx, Below w.heap.size w wx → Calls Tryd.prog 47 #[.int .i64 1] wx fun e w' => e = .returned (.string ⟨#[49]⟩) ∧ Below wx.heap.size wx w') := Lib.hid fun wx hb => by have h := HT.out 1 wx (by omega) (by omega) hb; rw [itoa_1] at h; exact h
  have HT2 : Hid (∀ wx, Below w.heap.size w wx → Calls Tryd.prog 47 #[.int .i64 7] wx fun e w' => e = .returned (.string ⟨#[55]⟩) ∧ Below wx.heap.size wx w') := Lib.hid fun wx hb => by have h := HT.out 7 wx (by omega) (by omega) hb; rw [itoa_7] at h; exact h
  have HJ : Hid (∀ (g : Nat) (wx : World), Blk wx g [.string ⟨#[50]⟩, .string ⟨#[49]⟩, .string ⟨#[55]⟩, .string ⟨#[97, 108, 108]⟩] → Calls Tryd.prog 48 #[.slice (some ⟨g, 0, none⟩) 4 4, .string { data := #[46] }] wx fun e w' => e = .returned (.string ⟨#[50, 46, 49, 46, 55, 46, 97, 108, 108]⟩) ∧ Below wx.heap.size wx w') := Lib.hid fun g wx h => by
    have h2 := join4 g ⟨#[50]⟩ ⟨#[49]⟩ ⟨#[55]⟩ ⟨#[97, 108, 108]⟩ wx h (by rw [join_lit]; decide)
    rw [join_lit] at h2
    exact h2
  obtain ⟨u3, hu3⟩ : ∃ u, u = str (Lib.itoa 1073741824) := ⟨_, rfl⟩
  rw [← hu3] at HT3
  obtain ⟨pc, hpc⟩ : ∃ pc, pc = tks 2 1 7 1073741824 := ⟨_, rfl⟩
  rw [← hpc] at B hb HC HW ⊢
  have HL : Hid (pc.length = 4) := Lib.hid (by rw [hpc]; rfl)
  have HP : Hid (∀ wx, Blk wx w.heap.size pc → wx.cell? ⟨w.heap.size, 0, none⟩ = some (.int .i64 2) ∧ wx.cell? ⟨w.heap.size, 1, none⟩ = some (.int .i64 1) ∧ wx.cell? ⟨w.heap.size, 2, none⟩ = some (.int .i64 7) ∧ wx.cell? ⟨w.heap.size, 3, none⟩ = some (.int .i64 1073741824)) := Lib.hid fun wx h => by
    rw [hpc] at h
    exact ⟨h.cell rfl, h.cell rfl, h.cell rfl, h.cell rfl⟩
  clear hpc hu3 HT ht
  have RG := B.range 0 pc (by rw [List.drop_zero, List.take_length])
  go_enter Tryd.func25, Tryd.ntmps25
  go_wp2_with (first
    | (refine wpList_load_mid rfl 42 (.tmp 1) rfl w.heap.size 0 rfl pc _ RG hu rfl (by rw [HL.out]; exact info_tok) ?_)
    | fail)
  refine (HC.out _).mono ?_
  rintro e w1 ⟨rfl, hb1⟩
  replace B := B.later hb1
  replace hb := hb.trans (hb1.mono hb.size)
  obtain ⟨p0, p1, p2, p3⟩ := HP.out _ B
  clear RG hb1
  go_wp2_with fail
  refine (HT3.out _ hb).mono ?_
  rintro e w2 ⟨rfl, hb2⟩
  replace B := B.later hb2
  replace hb := hb.trans (hb2.mono hb.size)
  have RG := B.range 0 pc (by rw [List.drop_zero, List.take_length])
  clear p0 p1 p2 p3 hb2
  go_wp2_with (first
    | (refine wpList_load_mid rfl 42 (.tmp 1) rfl w.heap.size 0 rfl pc _ RG hu rfl (by rw [HL.out]; exact info_tok) ?_)
    | fail)
  refine (HW.out _).mono ?_
  rintro e w3 ⟨rfl, hb3⟩
  replace B := B.later hb3
  replace hb := hb.trans (hb3.mono hb.size)
  clear RG hb3
  have c0 : ∀ kk : LW w3, kk.val.cell? ⟨w.heap.size, 0, none⟩ = some (.int .i64 2) := fun kk => (HP.out _ (B.later kk.le)).1
  have c1 : ∀ kk : LW w3, kk.val.cell? ⟨w.heap.size, 1, none⟩ = some (.int .i64 1) := fun kk => (HP.out _ (B.later kk.le)).2.1
  have c2 : ∀ kk : LW w3, kk.val.cell? ⟨w.heap.size, 2, none⟩ = some (.int .i64 7) := fun kk => (HP.out _ (B.later kk.le)).2.2.1
  go_wp2_with fail
  refine wp_region_steady [(22, relStr4 ⟨#[50]⟩ ⟨#[49]⟩ ⟨#[55]⟩ ⟨#[97, 108, 108]⟩)] 24 (by kernel_rfl) (by kernel_rfl) (by kernel_rfl) (by rfl) ?_
  iterate 2 (refine wpG_quiet (by rfl) (by rfl) (by rfl) (fun K hK => ?_); go_big_quiet_op; refine hK _ ?_; clear hK K)
  refine wpG_call (by rfl) (by rfl) 47 #[.int .i64 2] (.string ⟨#[50]⟩) (by intro _; simp [go_sem]) (by kernel_rfl) (fun w1 hl => HT0.out w1 (hb.trans (hl.1.mono hb.size))) ?_
  simp only [Act.put, List.setIfInBounds_toArray, List.set_cons_zero, List.set_cons_succ]
  iterate 2 (refine wpG_quiet (by rfl) (by rfl) (by rfl) (fun K hK => ?_); go_big_quiet_op; refine hK _ ?_; clear hK K)
  refine wpG_call (by rfl) (by rfl) 47 #[.int .i64 1] (.string ⟨#[49]⟩) (by intro _; simp [go_sem]) (by kernel_rfl) (fun w1 hl => HT1.out w1 (hb.trans (hl.1.mono hb.size))) ?_
  simp only [Act.put, List.setIfInBounds_toArray, List.set_cons_zero, List.set_cons_succ]
  iterate 2 (refine wpG_quiet (by rfl) (by rfl) (by rfl) (fun K hK => ?_); go_big_quiet_op; refine hK _ ?_; clear hK K)
  refine wpG_call (by rfl) (by rfl) 47 #[.int .i64 7] (.string ⟨#[55]⟩) (by intro _; simp [go_sem]) (by kernel_rfl) (fun w1 hl => HT2.out w1 (hb.trans (hl.1.mono hb.size))) ?_
  simp only [Act.put, List.setIfInBounds_toArray, List.set_cons_zero, List.set_cons_succ]
  iterate 1 (refine wpG_quiet (by rfl) (by rfl) (by rfl) (fun K hK => ?_); go_big_quiet_op; refine hK _ ?_; clear hK K)
  refine wpG_open (relStr4 ⟨#[50]⟩ ⟨#[49]⟩ ⟨#[55]⟩ ⟨#[97, 108, 108]⟩) (by rfl) (by rfl) (fun w1 hl => str4_gives (.tmp 14) (.tmp 17) (.tmp 20) (.tmp 21) _ _ _ _ rfl rfl rfl rfl rfl w1) ?_
  rintro _ ⟨_, _, _, ⟨g2, rfl, _⟩⟩
  simp only [Act.put, List.setIfInBounds_toArray, List.set_cons_zero, List.set_cons_succ]
  refine wpG_call (by rfl) (by rfl) 48 #[.slice (some ⟨g2, 0, none⟩) 4 4, .string { data := #[46] }] (.string ⟨#[50, 46, 49, 46, 55, 46, 97, 108, 108]⟩) (by intro _; simp [go_sem]) (by kernel_rfl) (fun w1 hl => ?_) ?_
  · obtain ⟨g5, h5, r5⟩ := hl.2 22 _ (by simp [Op.operands, Call.operands]) rfl (by intro h; cases h)
    cases h5
    exact HJ.out g2 w1 r5
  simp only [Act.put, List.setIfInBounds_toArray, List.set_cons_zero, List.set_cons_succ]
  iterate 1 (refine wpG_quiet (by rfl) (by rfl) (by rfl) (fun K hK => ?_); go_big_quiet_op; refine hK _ ?_; clear hK K)
  refine wpG_nil fun w4 hl _ => ?_
  go_wp2_with fail
  go_ret
  exact ⟨rfl, hb.trans (hl.mono hb.size)⟩

set_option maxRecDepth 100000 in
set_option maxHeartbeats 1600000 in
theorem tok_awake (w : World) (ht : Tab w) : Calls Tryd.prog 14 #[] w fun e w' => e = .returned (.bool true) ∧ Below w.heap.size w w' := by
  have HS := Lib.hid (tshow_lit w ht)
  clear ht
  go_enter Tryd.func14, Tryd.ntmps14
  go_wp2_with fail
  refine HS.out.mono ?_
  rintro e w1 ⟨rfl, hb⟩
  go_wp2_with fail
  go_ret
  exact ⟨rfl, hb⟩
end Go.Proofs.YticdpfjajkfheaaDoor

/- A region that draws its order, whose first operations turn memory, and whose others wait for them: the first by all their orders, the others walked once. -/
namespace Go.Proofs.YticdpfjajkfheaaDoor
set_option linter.unusedVariables false
open Go Go.RowKit

/-- The values of the first operations, put. -/
def putsAll : List Oper → List Value → Act → Act
  | o :: l, v :: vs, a => putsAll l vs (a.put o.dst v)
  | _, _, a => a
section
variable {P : Program} {ops : Array Oper} {md : Region.Mode} {Q : Exit → Act → World → Prop}
theorem wpAny_step {fuel : Nat} {listed : Array Bool} {a : Act} {w : World} (r : List Nat) (hr : Region.ready md ops listed = r) (hne : r.isEmpty = false)
    (h : ∀ i ∈ r, wpOp P ops Q i (wpAny P md ops Q fuel (listed.setIfInBounds i true)) a w) : wpAny P md ops Q (fuel + 1) listed a w := by
  subst hr
  exact ⟨fun h0 => absurd hne (by rw [h0]; simp), h⟩
theorem wpOp_move {i : Nat} {a : Act} {w : World} {K : Act → World → Prop} (o : Oper) (ho : ops[i]? = some o) (x : Operand) (hx : o.op = .move x) (hw : Region.wanted o (yielded ops a.tmps) = true) (h : K (a.put o.dst (a.eval x)) w) : wpOp P ops Q i K a w := by
  unfold wpOp
  simp only [ho, hw, if_true]
  left
  unfold Oper.wp execOp
  simp only [hx, Sem.run_pure, Oper.upon]
  exact h
theorem wpOp_call {i : Nat} {a : Act} {w : World} {K : Act → World → Prop} (o : Oper) (ho : ops[i]? = some o) (f : FuncId) (args : Array Value) (hx : (execOp a.eval o).run P w = .ok (.enter f args) w) (hw : Region.wanted o (yielded ops a.tmps) = true)
    (h : Calls P f args w fun e w' => ∃ v, e = .returned v ∧ K (a.put o.dst v) w') : wpOp P ops Q i K a w := by
  unfold wpOp
  simp only [ho, hw, if_true]
  left
  unfold Oper.wp
  rw [hx]
  simp only [Oper.upon]
  exact h.mono fun e w' ⟨v, he, hk⟩ => by subst he; exact hk
end
theorem wpAny_rest {P : Program} {Q : Exit → Act → World → Prop} {l : List Oper} {a : Act} {w : World} (k n : Nat) (listed : Array Bool) (hs : Region.noSelect l.toArray = true) (hf : fedB l [] n = true)
    (hB : Region.lexFrom .any l.toArray (l.drop k).length k listed = true) (hn : a.tmps.size = n)
    (h : wpG P l.toArray (openOf []) w (fun a' w' => Q .normal a' w') (l.drop k) a (fun _ => True)) : wpAny P .any l.toArray Q (l.drop k).length listed a w := by
  obtain ⟨hF, hd⟩ := fedB_fed (g := []) (n := n) hf
  have hI : Inv l.toArray (openOf []) w listed a w := ⟨Le.refl w, fun k o d R _ _ _ hG => by simp [openOf] at hG⟩
  refine wpAny_of_G (Qn := fun a' w' => Q .normal a' w') (w0 := w) hF (fun _ _ h => h) _ _ _ _ hI ?_
  exact wpAnyG_lex hF hs n hd (l.drop k) k listed a (fun _ => True) (fun j => by rw [List.getElem?_toArray, List.getElem?_drop]) hB hn ⟨w, hI⟩ (fun _ _ => trivial) h
/-- The first k operations in all their orders (head); the others once (tail). -/
theorem wp_region_head {P : Program} {id : Nat} {Q : Exit → Act → World → Prop} {a : Act} {w : World} {l : List Oper} (k n : Nat) (listed : Array Bool) (vs : List Value) (S : World → Prop) (hm : P.follows .mixedOrders = true)
    (hs : Region.noSelect l.toArray = true) (hf : fedB l [] n = true) (hB : Region.lexFrom .any l.toArray (l.drop k).length k listed = true) (hn : (putsAll l vs a).tmps.size = n)
    (head : (∀ w', S w' → wpAny P .any l.toArray Q (l.drop k).length listed (putsAll l vs a) w') → wpAny P .any l.toArray Q l.length (Array.replicate l.length false) a { w with drawn := w.drawn + 1 })
    (tail : ∀ w', S w' → wpG P l.toArray (openOf []) w' (fun a' w' => Q .normal a' w') (l.drop k) (putsAll l vs a) (fun _ => True)) : (Code.region id l.toArray true).wp P Q a w := by
  refine wp_region_any hm ?_
  simpa using head fun w' hS => wpAny_rest k n listed hs hf hB hn (tail w' hS)
end Go.Proofs.YticdpfjajkfheaaDoor

/- TokenReads: the walk. -/
namespace Go.Proofs.YticdpfjajkfheaaDoor
set_option linter.unusedVariables false
set_option linter.unusedSimpArgs false
open Go Go.RowKit OctM

theorem str_conv (w : World) (B : Nat) (A : Option Addr) (n c : Nat) (l : List UInt8) (s : ByteArray) (hn : l.length = n) (hs : Sees w B A (bvs l)) (h : s = str l) : (convert 48 9 (.slice A n c)).run Tryd.prog w = .ok (.string s) w := by
  subst h
  exact run_str (P := Tryd.prog) w B 48 5 9 Tryd.underlying48 Tryd.underlying5 Tryd.underlying9 A n c l hn hs
theorem fieldsT : Tryd.prog.underlying 42 = some (.struct (Tryd.prog.fieldsOf 42)) := by kernel_rfl
theorem guard_tok : Tryd.prog.eqGuardType Tryd.prog.depth 42 = false := by kernel_rfl
theorem eq_tok (n : Nat) (a b c d : Int) (w : World) : (Op.equalIn (n + 2) 42 (.agg (tks a b c d).toArray) (.agg (tks a b c d).toArray)).run Tryd.prog w = .ok true w := by
  rw [run_equalIn_agg w (n + 1) 42 _ _ fieldsT (by kernel_rfl)]
  have e : (Tryd.prog.fieldsOf 42).toList = [⟨"Dev", 3, 0, false, "", "", 0⟩, ⟨"Epoch", 3, 1, false, "", "", 8⟩, ⟨"Seq", 3, 2, false, "", "", 16⟩, ⟨"Cursor", 3, 3, false, "", "", 24⟩] := by kernel_rfl
  rw [e]
  simp only [tks, Op.eqFields]
  simp [go_sem, part, isAgg]

set_option maxRecDepth 100000 in
set_option maxHeartbeats 6400000 in
theorem walk_tokreads (A : Option Addr) (n c : Nat) (l : List UInt8) (w : World) (hn : l.length = n) (hs : Sees w w.heap.size A (bvs l)) (ht : Tab w) :
    Calls Tryd.prog 6 #[.slice A n c] w fun e w' => e = .returned (.bool true) ∧ Below w.heap.size w w' := by
  have HAW := Lib.hid (fun (wx : World) (hb : Below w.heap.size w wx) => tok_awake wx (ht.later hb))
  clear ht
  by_cases h5 : n ≤ 500
  · have d3 : decide ((500 : Int) < (n : Int)) = false := by simp; omega
    have HN := Lib.hid (rd_new A n c l w hn hs (by omega))
    have HNL := Lib.hid hn
    go_enter Tryd.func6, Tryd.ntmps6
    go_wp2_with fail
    refine HN.out.mono ?_
    rintro e w1 ⟨gr, rfl, r1, b1⟩
    obtain ⟨sl, hsl⟩ : ∃ sl, sl = str l := ⟨_, rfl⟩
    have hc1 := str_conv w1 w1.heap.size A n c l sl HNL.out ((hs.below b1).more b1.size) hsl
    have hgr := r1.block
    have HSL := Lib.hid hsl
    clear hn hsl
    go_wp2_with fail
    have T0 : Same2 w (w1.alloc (.cells #[.string sl, .int .i64 0] 56)) gr w1.heap.size l 0 0 := by
      refine ⟨⟨r1.later ((Below.refl _ _).alloc (Nat.le_refl _) _), ?_, hgr.2, b1.alloc b1.size _⟩, Nat.zero_le _, by rw [HNL.out]; omega⟩
      have h := own_lit w1 w.heap.size 56 #[.string sl, .int .i64 0] b1.size (by simp [maxLen])
      rw [HSL.out] at h ⊢
      exact h
    generalize hgm : w1.heap.size = gm at T0 ⊢
    clear hc1 r1 b1 hgr hgm HSL HN
    go_loopw [5] (fun i wr => ∃ (k a : Nat) (e : Int), k ≤ 4 ∧ i = .int .i64 k ∧ Same2 w wr gr gm l a e) (fun i _ => 4 - (intOf i).toNat)
    case atStart => exact ⟨0, 0, 0, by omega, rfl, T0⟩
    case round =>
      obtain ⟨k, a, e, hk, rfl, T, ha, hm⟩ := hrel
      have HT := Lib.hid T
      clear T0
      by_cases hlt : k < 4
      · have q2 : (k : Int) < 4 := by omega
        obtain ⟨⟨⟨d0, p0, s0, c0⟩, a2, e2⟩, hq⟩ : ∃ q, q = tokOut l a e := ⟨_, rfl⟩
        have ha2 := tokOut_at l a e ha
        have H1 := Lib.hid (fun wx (T : Two w wx gr gm l a e (l.drop a) e) => (rd_tok _ gr l a e wx T.1 ha hm).mono fun x w' h => (show x = .returned (.agg (tk4 (tokOut l a e).1).toArray) ∧ Two w w' gr gm l (tokOut l a e).2.1 (tokOut l a e).2.2 (l.drop a) e from ⟨h.1, T.first h.2.1 h.2.2⟩))
        have H2 := Lib.hid (fun wx (T : Two w wx gr gm l (tokOut l a e).2.1 (tokOut l a e).2.2 (l.drop a) e) => (rr_tok _ gm l a e wx T.2.1 hm).mono fun x w' h => (show x = .returned (.agg (tk4 (tokOut l a e).1).toArray) ∧ Two w w' gr gm l (tokOut l a e).2.1 (tokOut l a e).2.2 (l.drop (tokOut l a e).2.1) (tokOut l a e).2.2 from ⟨h.1, T.second h.2.1 h.2.2⟩))
        rw [← hq] at H1 H2 ha2
        simp only [tk4] at H1 H2 ha2
        obtain ⟨d, hd⟩ : ∃ z : Int, z = (d0 : Int) := ⟨_, rfl⟩
        obtain ⟨p, hp⟩ : ∃ z : Int, z = (p0 : Int) := ⟨_, rfl⟩
        obtain ⟨s, hs'⟩ : ∃ z : Int, z = (s0 : Int) := ⟨_, rfl⟩
        obtain ⟨c, hc'⟩ : ∃ z : Int, z = (c0 : Int) := ⟨_, rfl⟩
        rw [← hd, ← hp, ← hs', ← hc'] at H1 H2
        clear hq hd hp hs' hc' T d3 hs
        go_wp2_with fail
        refine wp_region_head 4 50 #[true, true, true, true, false, false, false, false, false, false, false, false, false, false, false, false, false, false, false, false, false, false, false, false] [.pointer (some ⟨gr, 0, none⟩), .agg (tks d p s c).toArray, .pointer (some ⟨gm, 0, none⟩), .agg (tks d p s c).toArray] (fun w' => Two w w' gr gm l a2 e2 (l.drop a2) e2) (by kernel_rfl) (by kernel_rfl) (by kernel_rfl) (by kernel_rfl) (by rfl) ?_ ?_
        · intro TAIL
          have T0 := HT.out.later ((Below.refl _ _).drew)
          refine wpAny_step (fuel := 23) [0, 2] (by kernel_rfl) rfl (fun i hi => ?_)
          simp only [List.mem_cons, List.not_mem_nil, or_false] at hi
          rcases hi with rfl | rfl
          · refine wpOp_move _ rfl (.tmp 3) rfl (by rfl) ?_
            simp only [Act.put, List.setIfInBounds_toArray, List.set_cons_zero, List.set_cons_succ]
            refine wpAny_step (fuel := 22) [1, 2] (by kernel_rfl) rfl (fun i hi => ?_)
            simp only [List.mem_cons, List.not_mem_nil, or_false] at hi
            rcases hi with rfl | rfl
            · refine wpOp_call _ rfl 28 #[.pointer (some ⟨gr, 0, none⟩)] (by simp [go_sem]) (by rfl) ((H1.out _ T0).mono ?_)
              rintro e' w1 ⟨rfl, T1⟩
              refine ⟨_, rfl, ?_⟩
              simp only [Act.put, List.setIfInBounds_toArray, List.set_cons_zero, List.set_cons_succ]
              refine wpAny_step (fuel := 21) [2] (by kernel_rfl) rfl (fun i hi => ?_)
              simp only [List.mem_cons, List.not_mem_nil, or_false] at hi
              subst hi
              refine wpOp_move _ rfl (.tmp 4) rfl (by rfl) ?_
              simp only [Act.put, List.setIfInBounds_toArray, List.set_cons_zero, List.set_cons_succ]
              refine wpAny_step (fuel := 20) [3] (by kernel_rfl) rfl (fun i hi => ?_)
              simp only [List.mem_cons, List.not_mem_nil, or_false] at hi
              subst hi
              refine wpOp_call _ rfl 29 #[.pointer (some ⟨gm, 0, none⟩)] (by simp [go_sem]) (by rfl) ((H2.out _ T1).mono ?_)
              rintro e' w2 ⟨rfl, T2⟩
              refine ⟨_, rfl, ?_⟩
              simp only [Act.put, List.setIfInBounds_toArray, List.set_cons_zero, List.set_cons_succ]
              exact TAIL _ T2
            · refine wpOp_move _ rfl (.tmp 4) rfl (by rfl) ?_
              simp only [Act.put, List.setIfInBounds_toArray, List.set_cons_zero, List.set_cons_succ]
              refine wpAny_step (fuel := 21) [1] (by kernel_rfl) rfl (fun i hi => ?_)
              simp only [List.mem_cons, List.not_mem_nil, or_false] at hi
              subst hi
              refine wpOp_call _ rfl 28 #[.pointer (some ⟨gr, 0, none⟩)] (by simp [go_sem]) (by rfl) ((H1.out _ T0).mono ?_)
              rintro e' w1 ⟨rfl, T1⟩
              refine ⟨_, rfl, ?_⟩
              simp only [Act.put, List.setIfInBounds_toArray, List.set_cons_zero, List.set_cons_succ]
              refine wpAny_step (fuel := 20) [3] (by kernel_rfl) rfl (fun i hi => ?_)
              simp only [List.mem_cons, List.not_mem_nil, or_false] at hi
              subst hi
              refine wpOp_call _ rfl 29 #[.pointer (some ⟨gm, 0, none⟩)] (by simp [go_sem]) (by rfl) ((H2.out _ T1).mono ?_)
              rintro e' w2 ⟨rfl, T2⟩
              refine ⟨_, rfl, ?_⟩
              simp only [Act.put, List.setIfInBounds_toArray, List.set_cons_zero, List.set_cons_succ]
              exact TAIL _ T2
          · refine wpOp_move _ rfl (.tmp 4) rfl (by rfl) ?_
            simp only [Act.put, List.setIfInBounds_toArray, List.set_cons_zero, List.set_cons_succ]
            refine wpAny_step (fuel := 22) [0] (by kernel_rfl) rfl (fun i hi => ?_)
            simp only [List.mem_cons, List.not_mem_nil, or_false] at hi
            subst hi
            refine wpOp_move _ rfl (.tmp 3) rfl (by rfl) ?_
            simp only [Act.put, List.setIfInBounds_toArray, List.set_cons_zero, List.set_cons_succ]
            refine wpAny_step (fuel := 21) [1] (by kernel_rfl) rfl (fun i hi => ?_)
            simp only [List.mem_cons, List.not_mem_nil, or_false] at hi
            subst hi
            refine wpOp_call _ rfl 28 #[.pointer (some ⟨gr, 0, none⟩)] (by simp [go_sem]) (by rfl) ((H1.out _ T0).mono ?_)
            rintro e' w1 ⟨rfl, T1⟩
            refine ⟨_, rfl, ?_⟩
            simp only [Act.put, List.setIfInBounds_toArray, List.set_cons_zero, List.set_cons_succ]
            refine wpAny_step (fuel := 20) [3] (by kernel_rfl) rfl (fun i hi => ?_)
            simp only [List.mem_cons, List.not_mem_nil, or_false] at hi
            subst hi
            refine wpOp_call _ rfl 29 #[.pointer (some ⟨gm, 0, none⟩)] (by simp [go_sem]) (by rfl) ((H2.out _ T1).mono ?_)
            rintro e' w2 ⟨rfl, T2⟩
            refine ⟨_, rfl, ?_⟩
            simp only [Act.put, List.setIfInBounds_toArray, List.set_cons_zero, List.set_cons_succ]
            exact TAIL _ T2
        · intro w5 T5
          obtain ⟨rest, hrest⟩ : ∃ r, r = l.length - a2 := ⟨_, rfl⟩
          obtain ⟨sr, hsr⟩ : ∃ sr, sr = str (l.drop a2) := ⟨_, rfl⟩
          have zr : sr.size = rest := by rw [hsr, str_size, List.length_drop, hrest]
          have hr2 : rest ≤ 2000 := by omega
          have HLE := Lib.hid (fun wx (T : Two w wx gr gm l a2 e2 (l.drop a2) e2) => two_left T ha2 hm rest hrest)
          have HER := Lib.hid (fun wx (T : Two w wx gr gm l a2 e2 (l.drop a2) e2) => two_err T)
          have hm0 : ∀ k : LW w5, k.val.cell? ⟨gm, 0, none⟩ = some (.string sr) := fun k => by rw [hsr]; exact (two_cells (T5.later k.le)).1
          have hm1 : ∀ k : LW w5, k.val.cell? ⟨gm, 1, none⟩ = some (.int .i64 e2) := fun k => (two_cells (T5.later k.le)).2
          clear hrest hsr
          simp only [putsAll, List.drop_succ_cons, List.drop_zero]
          simp only [Act.put, List.setIfInBounds_toArray, List.set_cons_zero, List.set_cons_succ]
          refine wpG_run (by rfl) (by rfl) (.bool false) (fun w1 hl => exec_neq 42 _ (.tmp 21) (.tmp 23) rfl _ _ rfl rfl guard_tok true (eq_tok 9998 d p s c w1)) ?_
          simp only [Act.put, List.setIfInBounds_toArray, List.set_cons_zero, List.set_cons_succ]
          iterate 2 (refine wpG_quiet (by rfl) (by rfl) (by rfl) (fun K hK => ?_); go_big_quiet_op; refine hK _ ?_; clear hK K)
          refine wpG_call (by rfl) (by rfl) 30 #[.pointer (some ⟨gr, 0, none⟩)] (.int .i64 e2) (by intro _; simp [go_sem]) (by kernel_rfl) (fun w1 hl => HER.out w1 (T5.later hl.1)) ?_
          simp only [Act.put, List.setIfInBounds_toArray, List.set_cons_zero, List.set_cons_succ]
          iterate 8 (refine wpG_quiet (by rfl) (by rfl) (by rfl) (fun K hK => ?_); go_big_quiet_op; refine hK _ ?_; clear hK K)
          refine wpG_call (by rfl) (by rfl) 31 #[.pointer (some ⟨gr, 0, none⟩)] (.int .i64 rest) (by intro _; simp [go_sem]) (by kernel_rfl) (fun w1 hl => HLE.out w1 (T5.later hl.1)) ?_
          simp only [Act.put, List.setIfInBounds_toArray, List.set_cons_zero, List.set_cons_succ]
          iterate 7 (refine wpG_quiet (by rfl) (by rfl) (by rfl) (fun K hK => ?_); go_big_quiet_op; refine hK _ ?_; clear hK K)
          refine wpG_nil (fun w6 hl6 _ => ?_)
          have T6 := T5.later hl6
          go_wp2_with fail
          go_roundw
          case rel => exact ⟨k + 1, a2, e2, by omega, by go_num, T6, ha2, hm⟩
          case measure => simp [intOf]; omega
      · obtain rfl : k = 4 := by omega
        clear d3 hs
        go_wp2_with fail
        refine (nil_tok _).mono ?_
        rintro e' w2 ⟨rfl, b2⟩
        have T2 := HT.out.later b2
        clear T HT b2
        go_wp2_with (first
          | (refine wpList_exec (by rfl) (.bool true) (exec_eql 42 _ (.tmp 44) (.tmp 45) rfl _ _ rfl rfl guard_tok true (eq_tok 9998 0 0 0 0 _)) ?_)
          | fail)
        refine (HAW.out _ T2.2.2.2).mono ?_
        rintro e' w3 ⟨rfl, b3⟩
        have T3 := T2.later b3
        go_wp2_with fail
        go_ret
        exact ⟨rfl, T3.2.2.2⟩
  · have d3 : decide ((500 : Int) < (n : Int)) = true := by simp; omega
    clear hs hn
    go_enter Tryd.func6, Tryd.ntmps6
    go_wp2_with fail
    refine (HAW.out _ (Below.refl _ _)).mono ?_
    rintro e' w3 ⟨rfl, b3⟩
    go_wp2_with fail
    go_ret
    exact ⟨rfl, b3⟩
end Go.Proofs.YticdpfjajkfheaaDoor
