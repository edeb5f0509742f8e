/- PieceSectors: the law's walk. -/
import Derived.Test.YtgoebblcggdlgaaPieG
namespace Go.Proofs.Ytgoebblcggdlgaa
set_option linter.unusedVariables false
set_option linter.unusedSimpArgs false
open Go Go.RowKit OctM SumM

theorem awk_any (w : World) : Calls Try.prog 6 #[] w fun e w' => e = .returned (.bool true) ∧ Below w.heap.size w w' :=
  (awake_any w).mono fun e w' h => ⟨h.1, h.2 ▸ Below.refl _ _⟩
theorem pcel_len (p : Pc) : (pcel p).length = 5 := rfl
/-- A new struct, stored whole. -/
theorem new_put (B : Nat) (w : World) (cs zs : List Value) (u : TypeId) (h : cs.length = zs.length) (hB : B ≤ w.heap.size) : (w.alloc (.cells zs.toArray u)).there w.heap.size 0 cs.toArray.size ∧ Blk ((w.alloc (.cells zs.toArray u)).setCells w.heap.size 0 cs) w.heap.size cs ∧ Below w.heap.size w ((w.alloc (.cells zs.toArray u)).setCells w.heap.size 0 cs) ∧ ((w.alloc (.cells zs.toArray u)).setCells w.heap.size 0 cs).heap.size = w.heap.size + 1 := by
  have BN := Blk.new w zs u
  refine ⟨?_, BN.wholeT h, below_sets (Nat.le_refl _) cs 0 ((Below.refl w.heap.size w).alloc (Nat.le_refl _) (.cells zs.toArray u)), by rw [size_sets]; simp⟩
  rw [show cs.toArray.size = zs.length from (List.size_toArray).trans h]
  exact BN.there 0 _ (by omega)

set_option maxRecDepth 100000 in
set_option maxHeartbeats 6400000 in
theorem walk_sectors (p : Pc) (l : List UInt8) (w : World) (hp : -9223372036854775808 ≤ p.2.1 ∧ p.2.1 ≤ 9223372036854775807) (hb : p.2.2.2.2.length ≤ maxLen) (hl : l.length ≤ maxLen) :
    Calls Try.prog 3 #[.agg (pcel p).toArray, .string (str l)] w fun e w' => e = .returned (.bool true) ∧ Below w.heap.size w w' := by
  have B0 := Blk.new w (pcel p) 23
  have hb0 := (Below.refl w.heap.size w).alloc (Nat.le_refl _) (.cells (pcel p).toArray 23)
  obtain ⟨a, b, f, g, bl⟩ := p
  dsimp only at hp hb
  have hz := str_size bl
  have hz2 := str_size l
  obtain ⟨sb, hsb⟩ : ∃ sb, sb = str bl := ⟨_, rfl⟩
  obtain ⟨sl, hsl⟩ : ∃ sl, sl = str l := ⟨_, rfl⟩
  have c4 := B0.cell (j := 4) (v := .string sb) (by rw [hsb]; rfl)
  rw [← hsb] at hz
  rw [← hsl] at hz2 ⊢
  obtain ⟨n, hn⟩ : ∃ n, n = bl.length := ⟨_, rfl⟩
  obtain ⟨m, hm⟩ : ∃ m, m = l.length := ⟨_, rfl⟩
  rw [← hn] at hz hb
  rw [← hm] at hz2 hl
  obtain ⟨W, hW⟩ : ∃ W, W = w.alloc (.cells (pcel (a, b, f, g, bl)).toArray 23) := ⟨_, rfl⟩
  rw [← hW] at B0 hb0 c4
  have HSB := Lib.hid hsb
  have HSL := Lib.hid hsl
  have HNN := Lib.hid hn
  have HMM := Lib.hid hm
  obtain ⟨pa, hpa⟩ : ∃ pa, pa = pcel (a, b, f, g, bl) := ⟨_, rfl⟩
  rw [← hpa] at hW B0 ⊢
  rw [hW] at c4
  have HPA := Lib.hid hpa
  have HW := Lib.hid hW
  clear hsb hsl hn hm hpa hW
  by_cases h1 : n ≤ 200
  · have d1 : decide ((200 : Int) < (n : Int)) = false := decide_eq_false (by omega)
    by_cases h2 : m ≤ 200
    · have d2 : decide ((200 : Int) < (m : Int)) = false := decide_eq_false (by omega)
      have HG1 := Lib.hid (fun wx => get_any l (by rw [← HMM.out]; omega) wx)
      have HG2 := Lib.hid (fun wx => rget_any l (by rw [← HMM.out]; omega) wx)
      rw [← HSL.out] at HG1 HG2
      obtain ⟨x, hx⟩ : ∃ x, x = (getOut l).1 := ⟨_, rfl⟩
      obtain ⟨ok, hok⟩ : ∃ ok, ok = (getOut l).2 := ⟨_, rfl⟩
      rw [← hx, ← hok] at HG1 HG2
      have HC1 := Lib.hid (fun wx => check_any (a, b, f, g, bl) wx (by show bl.length ≤ 4096; rw [← HNN.out]; omega))
      have HC2 := Lib.hid (fun wx => rcheck_any (a, b, f, g, bl) wx (by show bl.length ≤ 4096; rw [← HNN.out]; omega))
      have HP1 := Lib.hid (fun wx => put_any (a, b, f, g, bl) wx (by show bl.length ≤ 4096; rw [← HNN.out]; omega))
      have HP2 := Lib.hid (fun wx => rput_any (a, b, f, g, bl) wx (by show bl.length ≤ 4096; rw [← HNN.out]; omega))
      have HT := Lib.hid (fun wx => to_any (a, b, f, g, bl) wx)
      rw [← HPA.out] at HC1 HC2 HP1 HP2 HT
      obtain ⟨ck, hck⟩ : ∃ ck, ck = pok (a, b, f, g, bl) := ⟨_, rfl⟩
      obtain ⟨ps, hps⟩ : ∃ ps, ps = str (pbs (a, b, f, g, bl)) := ⟨_, rfl⟩
      rw [← hck] at HC1 HC2
      rw [← hps] at HP1 HP2
      clear hx hok hck hps
      obtain ⟨xa, hxa⟩ : ∃ xa, xa = pcel x := ⟨_, rfl⟩
      have HF := Lib.hid (fun wx => from_any x wx)
      have HE : Hid (∀ wx, (Op.equalIn 10000 23 (.agg (pcel x).toArray) (.agg (pcel x).toArray)).run Try.prog wx = .ok true wx) := Lib.hid (fun wx => (eq_rpie 9998 x x wx).trans (by rw [decide_eq_true rfl]))
      have HON := Lib.hid (all_oneCell_toArray (pcel_one x))
      rw [← hxa] at HG1 HG2 HF HE HON
      have HXA := Lib.hid hxa
      have HSZ : Hid (xa.length = 5) := Lib.hid (by rw [hxa]; rfl)
      have HLP : Hid (pa.length = 5) := Lib.hid (by rw [HPA.out]; rfl)
      have IN1 : (Try.prog.info? 25).map (·.size) = some xa.toArray.size := by rw [(List.size_toArray).trans HSZ.out]; exact info_pie
      have IN2 : (Try.prog.info? 23).map (·.size) = some xa.toArray.size := by rw [(List.size_toArray).trans HSZ.out]; exact info_rpie
      clear hxa
      have hu1 := Try.underlying25
      have hu2 := Try.underlying23
      go_enter Try.func3, Try.ntmps3
      go_wp2_with fail
      rw [← HW.out]
      refine (HG1.out W).mono ?_
      rintro e w1 ⟨rfl, h1⟩
      have B1 := B0.later h1
      have hb1 := hb0.trans (h1.mono hb0.size)
      obtain ⟨TH1, F1, g1, z1⟩ := new_put w.heap.size w1 xa [.int .i64 0, .int .i64 0, .bool false, .bool false, .string { data := #[] }] 25 (by rw [HSZ.out]; rfl) hb1.size
      have D1 := Lib.hid (B1.later g1)
      have F1 := Lib.hid F1
      have G1 := Lib.hid (hb1.trans (g1.mono hb1.size))
      clear B1 hb1 h1 g1 z1 B0 hb0 c4
      go_wp2_with (first
        | (refine wpList_store_mid rfl 25 (.tmp 5) (.tmp 22) rfl w1.heap.size 0 xa.toArray rfl rfl TH1 IN1 HON.out ?_
           simp only [Act.put]
           generalize hw2 : World.setCells _ w1.heap.size 0 xa.toArray.toList = w2
           have B2 : Blk w2 w.heap.size pa := by rw [← hw2]; exact D1.out
           have F2 : Blk w2 w1.heap.size xa := by rw [← hw2]; exact F1.out
           have hb2 : Below w.heap.size w w2 := by rw [← hw2]; exact G1.out
           clear hw2 TH1 IN1 D1 F1 G1)
        | fail)
      obtain ⟨g5, hg5⟩ : ∃ g5, g5 = w1.heap.size := ⟨_, rfl⟩
      rw [← hg5] at F2 ⊢
      clear hg5
      refine (HG2.out w2).mono ?_
      rintro e w3 ⟨rfl, h3⟩
      have B3 := B2.later h3
      have F3 := F2.later h3
      have hb3 := hb2.trans (h3.mono hb2.size)
      obtain ⟨TH3, G4, g3, z3⟩ := new_put w.heap.size w3 xa [.int .i64 0, .int .i64 0, .bool false, .bool false, .string { data := #[] }] 23 (by rw [HSZ.out]; rfl) hb3.size
      have D1 := Lib.hid (B3.later g3)
      have F1 := Lib.hid (F3.later g3)
      have G4 := Lib.hid G4
      have G1 := Lib.hid (hb3.trans (g3.mono hb3.size))
      clear B3 F3 hb3 h3 g3 z3 B2 F2 hb2
      go_wp2_with (first
        | (refine wpList_store_mid rfl 23 (.tmp 7) (.tmp 27) rfl w3.heap.size 0 xa.toArray rfl rfl TH3 IN2 HON.out ?_
           simp only [Act.put]
           generalize hw4 : World.setCells _ w3.heap.size 0 xa.toArray.toList = w4
           have B4 : Blk w4 w.heap.size pa := by rw [← hw4]; exact D1.out
           have F4 : Blk w4 g5 xa := by rw [← hw4]; exact F1.out
           have E4 : Blk w4 w3.heap.size xa := by rw [← hw4]; exact G4.out
           have hb4 : Below w.heap.size w w4 := by rw [← hw4]; exact G1.out
           clear hw4 TH3 D1 F1 G1 G4)
        | fail)
      obtain ⟨g7, hg7⟩ : ∃ g7, g7 = w3.heap.size := ⟨_, rfl⟩
      rw [← hg7] at E4 ⊢
      clear hg7
      have d1 : ∀ kk : LW w4, kk.val.cell? ⟨w.heap.size, 1, none⟩ = some (.int .i64 b) := fun kk => (B4.later kk.le).cell (by rw [HPA.out]; rfl)
      have HMB : Hid (∀ wx, Calls Try.prog 15 #[.int .i64 b] wx fun e w' => e = .returned (.int .i64 (many b)) ∧ Below wx.heap.size wx w') := Lib.hid (fun wx => (many_any b (by omega) wx).mono fun e w' h => ⟨h.1, h.2 ▸ Below.refl _ _⟩)
      have HMR : Hid (∀ wx, Calls Try.prog 16 #[.int .i64 b] wx fun e w' => e = .returned (.int .i64 (many b)) ∧ Below wx.heap.size wx w') := Lib.hid (fun wx => (rmany_any b (by omega) wx).mono fun e w' h => ⟨h.1, h.2 ▸ Below.refl _ _⟩)
      obtain ⟨mb, hmb⟩ : ∃ mb, mb = many b := ⟨_, rfl⟩
      rw [← hmb] at HMB HMR
      clear hmb hp
      refine wp_region_steady [] 66 (by kernel_rfl) (by kernel_rfl) (by kernel_rfl) (by rfl) ?_
      refine wpG_run (by rfl) (by rfl) (.agg (pa).toArray) (fun wx hl => exec_load 23 (.tmp 2) rfl (w.heap.size) 0 rfl (pa) _ ((B4.later hl.1).range 0 pa (by rw [List.drop_zero, List.take_length])) hu2 rfl (by rw [HLP.out]; exact info_rpie)) ?_
      simp only [Act.put, List.setIfInBounds_toArray, List.set_cons_zero, List.set_cons_succ]
      refine wpG_call (by rfl) (by rfl) 10 #[.agg pa.toArray] (.agg pa.toArray) (by intro _; simp [go_sem]) (by kernel_rfl) (fun wx hl => HT.out wx) ?_
      simp only [Act.put, List.setIfInBounds_toArray, List.set_cons_zero, List.set_cons_succ]
      refine wpG_call (by rfl) (by rfl) 9 #[.agg pa.toArray] (.bool ck) (by intro _; simp [go_sem]) (by kernel_rfl) (fun wx hl => HC1.out wx) ?_
      simp only [Act.put, List.setIfInBounds_toArray, List.set_cons_zero, List.set_cons_succ]
      refine wpG_run (by rfl) (by rfl) (.agg (pa).toArray) (fun wx hl => exec_load 23 (.tmp 2) rfl (w.heap.size) 0 rfl (pa) _ ((B4.later hl.1).range 0 pa (by rw [List.drop_zero, List.take_length])) hu2 rfl (by rw [HLP.out]; exact info_rpie)) ?_
      simp only [Act.put, List.setIfInBounds_toArray, List.set_cons_zero, List.set_cons_succ]
      refine wpG_call (by rfl) (by rfl) 11 #[.agg pa.toArray] (.bool ck) (by intro _; simp [go_sem]) (by kernel_rfl) (fun wx hl => HC2.out wx) ?_
      simp only [Act.put, List.setIfInBounds_toArray, List.set_cons_zero, List.set_cons_succ]
      refine wpG_run (by rfl) (by rfl) (.bool true) (fun wx hl => by simp [go_sem]) ?_
      simp only [Act.put, List.setIfInBounds_toArray, List.set_cons_zero, List.set_cons_succ]
      iterate 1 (refine wpG_quiet (by rfl) (by rfl) (by rfl) (fun K hK => ?_); go_big_quiet_op; refine hK _ ?_; clear hK K)
      refine wpG_run (by rfl) (by rfl) (.agg (pa).toArray) (fun wx hl => exec_load 23 (.tmp 2) rfl (w.heap.size) 0 rfl (pa) _ ((B4.later hl.1).range 0 pa (by rw [List.drop_zero, List.take_length])) hu2 rfl (by rw [HLP.out]; exact info_rpie)) ?_
      simp only [Act.put, List.setIfInBounds_toArray, List.set_cons_zero, List.set_cons_succ]
      refine wpG_call (by rfl) (by rfl) 10 #[.agg pa.toArray] (.agg pa.toArray) (by intro _; simp [go_sem]) (by kernel_rfl) (fun wx hl => HT.out wx) ?_
      simp only [Act.put, List.setIfInBounds_toArray, List.set_cons_zero, List.set_cons_succ]
      refine wpG_call (by rfl) (by rfl) 12 #[.agg pa.toArray] (.string ps) (by intro _; simp [go_sem]) (by kernel_rfl) (fun wx hl => HP1.out wx) ?_
      simp only [Act.put, List.setIfInBounds_toArray, List.set_cons_zero, List.set_cons_succ]
      refine wpG_run (by rfl) (by rfl) (.agg (pa).toArray) (fun wx hl => exec_load 23 (.tmp 2) rfl (w.heap.size) 0 rfl (pa) _ ((B4.later hl.1).range 0 pa (by rw [List.drop_zero, List.take_length])) hu2 rfl (by rw [HLP.out]; exact info_rpie)) ?_
      simp only [Act.put, List.setIfInBounds_toArray, List.set_cons_zero, List.set_cons_succ]
      refine wpG_call (by rfl) (by rfl) 13 #[.agg pa.toArray] (.string ps) (by intro _; simp [go_sem]) (by kernel_rfl) (fun wx hl => HP2.out wx) ?_
      simp only [Act.put, List.setIfInBounds_toArray, List.set_cons_zero, List.set_cons_succ]
      refine wpG_run (by rfl) (by rfl) (.bool true) (fun wx hl => by simp [go_sem]) ?_
      simp only [Act.put, List.setIfInBounds_toArray, List.set_cons_zero, List.set_cons_succ]
      iterate 2 (refine wpG_quiet (by rfl) (by rfl) (by rfl) (fun K hK => ?_); go_big_quiet_op; refine hK _ ?_; clear hK K)
      refine wpG_run (by rfl) (by rfl) (.agg (xa).toArray) (fun wx hl => exec_load 25 (.tmp 5) rfl (g5) 0 rfl (xa) _ ((F4.later hl.1).range 0 xa (by rw [List.drop_zero, List.take_length])) hu1 rfl (by rw [HSZ.out]; exact info_pie)) ?_
      simp only [Act.put, List.setIfInBounds_toArray, List.set_cons_zero, List.set_cons_succ]
      refine wpG_call (by rfl) (by rfl) 14 #[.agg xa.toArray] (.agg xa.toArray) (by intro _; simp [go_sem]) (by kernel_rfl) (fun wx hl => HF.out wx) ?_
      simp only [Act.put, List.setIfInBounds_toArray, List.set_cons_zero, List.set_cons_succ]
      refine wpG_run (by rfl) (by rfl) (.agg (xa).toArray) (fun wx hl => exec_load 23 (.tmp 7) rfl (g7) 0 rfl (xa) _ ((E4.later hl.1).range 0 xa (by rw [List.drop_zero, List.take_length])) hu2 rfl (by rw [HSZ.out]; exact info_rpie)) ?_
      simp only [Act.put, List.setIfInBounds_toArray, List.set_cons_zero, List.set_cons_succ]
      refine wpG_run (by rfl) (by rfl) (.bool true) (fun wx hl => exec_eql 23 _ (.tmp 45) (.tmp 46) rfl _ _ rfl rfl guard_rpie true (HE.out wx)) ?_
      simp only [Act.put, List.setIfInBounds_toArray, List.set_cons_zero, List.set_cons_succ]
      iterate 2 (refine wpG_quiet (by rfl) (by rfl) (by rfl) (fun K hK => ?_); go_big_quiet_op; refine hK _ ?_; clear hK K)
      iterate 2 (refine wpG_quiet (by rfl) (by rfl) (by rfl) (fun K hK => ?_); go_big_quiet_op; refine hK _ ?_; clear hK K)
      refine wpG_run (by rfl) (by rfl) (.bool true) (fun wx hl => by simp [go_sem]) ?_
      simp only [Act.put, List.setIfInBounds_toArray, List.set_cons_zero, List.set_cons_succ]
      iterate 2 (refine wpG_quiet (by rfl) (by rfl) (by rfl) (fun K hK => ?_); go_big_quiet_op; refine hK _ ?_; clear hK K)
      iterate 1 (refine wpG_quiet (by rfl) (by rfl) (by rfl) (fun K hK => ?_); go_big_quiet_op; refine hK _ ?_; clear hK K)
      iterate 1 (refine wpG_quiet (by rfl) (by rfl) (by rfl) (fun K hK => ?_); go_big_quiet_op; refine hK _ ?_; clear hK K)
      refine wpG_call (by rfl) (by rfl) 15 #[.int .i64 b] (.int .i64 mb) (by intro _; simp [go_sem]) (by kernel_rfl) (fun wx hl => HMB.out wx) ?_
      simp only [Act.put, List.setIfInBounds_toArray, List.set_cons_zero, List.set_cons_succ]
      iterate 2 (refine wpG_quiet (by rfl) (by rfl) (by rfl) (fun K hK => ?_); go_big_quiet_op; refine hK _ ?_; clear hK K)
      refine wpG_call (by rfl) (by rfl) 16 #[.int .i64 b] (.int .i64 mb) (by intro _; simp [go_sem]) (by kernel_rfl) (fun wx hl => HMR.out wx) ?_
      simp only [Act.put, List.setIfInBounds_toArray, List.set_cons_zero, List.set_cons_succ]
      refine wpG_run (by rfl) (by rfl) (.bool true) (fun wx hl => by simp [go_sem]) ?_
      simp only [Act.put, List.setIfInBounds_toArray, List.set_cons_zero, List.set_cons_succ]
      iterate 2 (refine wpG_quiet (by rfl) (by rfl) (by rfl) (fun K hK => ?_); go_big_quiet_op; refine hK _ ?_; clear hK K)
      refine wpG_call (by rfl) (by rfl) 6 #[] (.bool true) (by intro _; simp [go_sem]) (by kernel_rfl) (fun wx hl => awk_any wx) ?_
      simp only [Act.put, List.setIfInBounds_toArray, List.set_cons_zero, List.set_cons_succ]
      iterate 2 (refine wpG_quiet (by rfl) (by rfl) (by rfl) (fun K hK => ?_); go_big_quiet_op; refine hK _ ?_; clear hK K)
      refine wpG_nil fun wx hl _ => ?_
      have hb9 := hb4.trans (hl.mono hb4.size)
      clear B4 F4 E4 hb4
      go_wp2_with fail
      go_ret
      exact ⟨rfl, hb9⟩
    · have d2 : decide ((200 : Int) < (m : Int)) = true := decide_eq_true (by omega)
      go_enter Try.func3, Try.ntmps3
      go_wp2_with fail
      rw [← HW.out]
      refine (awake_any _).mono ?_
      rintro e w9 ⟨rfl, rfl⟩
      go_wp2_with fail
      go_ret
      exact ⟨rfl, hb0⟩
  · have d1 : decide ((200 : Int) < (n : Int)) = true := decide_eq_true (by omega)
    go_enter Try.func3, Try.ntmps3
    go_wp2_with fail
    rw [← HW.out]
    refine (awake_any _).mono ?_
    rintro e w9 ⟨rfl, rfl⟩
    go_wp2_with fail
    go_ret
    exact ⟨rfl, hb0⟩
end Go.Proofs.Ytgoebblcggdlgaa
