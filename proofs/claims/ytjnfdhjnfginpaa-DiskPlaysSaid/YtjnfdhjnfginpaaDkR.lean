/- Disks: the document's disk: Crash. -/
import Derived.Test.YtjnfdhjnfginpaaDkQ
namespace Go.Proofs.Ytjnfdhjnfginpaa
set_option linter.unusedVariables false
set_option linter.unusedSimpArgs false
open Go Go.RowKit

theorem outc_pos {keep : List Int} {k : Nat} (h : k < keep.length) (hz : 0 ≤ keep[k]) : outc keep k = keep[k] % 3 := by
  rw [outc_yes h]
  split
  · rfl
  · rw [show keep[k] = 0 by omega]
    rfl
theorem outc_neg {keep : List Int} {k : Nat} (h : k < keep.length) (hz : ¬ 0 ≤ keep[k]) : outc keep k = 0 := by
  rw [outc_yes h, if_neg (by omega)]
theorem exec_rem3 {o : Oper} {a : Act} {w : World} (x y : Operand) (u : TypeId) (ho : o.op = .binOp .rem 3 x y u) (z oc : Int) (hx : a.eval x = .int .i64 z) (hy : a.eval y = .int .i64 3) (t1 : Int.tmod z 3 = oc) : (execOp a.eval o).run Try.prog w = .ok (.value (.int .i64 oc)) w := by
  unfold execOp
  generalize a.eval = ρ at hx hy
  simp [go_sem, ho, hx, hy, t1]
set_option maxRecDepth 100000 in
set_option maxHeartbeats 6400000 in
theorem rcrash_any (L m : Nat) (q p : Option Nat) (D : Dk) (A1 : Option Addr) (n1 c1 : Nat) (keep : List Int) (w : World) (h : RfAt w L m q p D) (hin : DIn D) (hw : D.w.length ≤ 65536) (hs : D.s.length ≤ 65536) (hL : L ≤ w.heap.size) (hk1 : keep.length = n1) (hn1 : n1 ≤ maxLen)
    (hsee : ∀ W, Turn3 w W m m none → Sees W W.heap.size A1 (ivs keep)) :
    Calls Try.prog 23 #[.pointer (some ⟨m, 0, none⟩), .slice A1 n1 c1] w fun e w' => e = .returned (.tuple #[]) ∧ ∃ q', RfAt w' L m q' none (dcrash D keep) ∧ Turn3 w w' m m none ∧ RowN w q q' := by
  unfold maxLen at hn1
  have HIN := Lib.hid hin
  have HSE := Lib.hid hs
  have HSEE := Lib.hid hsee
  have HKL := Lib.hid hk1
  obtain ⟨nw, hnw⟩ : ∃ nw, nw = D.w.length := ⟨_, rfl⟩
  rw [← hnw] at hw
  have HNW := Lib.hid hnw
  have HQ0 : Hid (RowN w q q) := Lib.hid (RowN.refl _ _)
  have T1 : Hid (Turn3 w w m m none) := Lib.hid (Turn3.refl _ _ _ _)
  have H1 : Hid (RfAt w L m q p { D with s := dkeep keep 0 D.s (D.w.take 0) }) := Lib.hid h
  clear h hin hs hsee hk1 hnw
  go_enter Try.func23, Try.ntmps23
  go_wp2_with fail
  go_loopw [4] (fun i wr => ∃ k : Nat, k ≤ nw ∧ i = .int .i64 (k : Int) ∧ ∃ q', Hid (RfAt wr L m q' p { D with s := dkeep keep 0 D.s (D.w.take k) }) ∧ Hid (Turn3 w wr m m none) ∧ Hid (RowN w q q')) (fun i _ => nw - (intOf i).toNat)
  case atStart => exact ⟨0, by omega, rfl, q, H1, T1, HQ0⟩
  case round =>
    clear H1 T1 HQ0
    obtain ⟨k, hk, rfl, qo, HF, HT, HQ⟩ := hrel
    obtain ⟨A, c, A', c', k0, k1, k2, k3, r1, r2, e1, e2, hz⟩ := HF.out.cells
    dsimp only at k1 k2 k3 r2
    rw [← HNW.out] at k1
    have hmr := HF.out.lt
    have hzr : L ≤ wr.heap.size := Nat.le_trans hL HT.out.size
    clear k0 r1 e1
    by_cases hlt : k < nw
    · have d1 : decide ((k : Int) < (nw : Int)) = true := decide_eq_true (by omega)
      have hkl : k < D.w.length := by rw [← HNW.out]; exact hlt
      have hkn : ¬ nw ≤ k := by omega
      obtain ⟨g2, eg⟩ := row_some r2 (by omega)
      obtain ⟨b2, o2, e3, hb2, hr2⟩ := sees_rw (wtl_len _) (row_sees r2) (by decide : 0 < 2) k hkl
      subst eg
      injection e3 with e3
      injection e3 with e3 e4
      subst e3
      subst e4
      have hbm : g2 ≠ m := fun e => HF.out.pm (by rw [e2, e]; rfl)
      clear e2 k2 k3 hz
      have hid := HIN.out _ (List.getElem_mem hkl)
      have hda := dkeep_take keep D.s D.w k hkl
      obtain ⟨x, hx⟩ : ∃ x, x = D.w[k] := ⟨_, rfl⟩
      rw [← hx] at hr2 hid hda
      clear hx r2
      obtain ⟨xa, xb⟩ := x
      unfold dhas at hid
      rw [decide_eq_true_eq] at hid
      dsimp only at hid
      obtain ⟨j, rfl⟩ : ∃ j : Nat, xa = (j : Int) := ⟨xa.toNat, by omega⟩
      rw [Nat.zero_add] at hr2
      have p0 : wr.cell? ⟨g2, k * 2, none⟩ = some (.int .i64 (j : Int)) := hr2 0 _ rfl
      have p1 : wr.cell? ⟨g2, k * 2 + 1, none⟩ = some (.string (str xb.1)) := hr2 1 _ rfl
      obtain ⟨sb, hsb⟩ : ∃ sb, sb = str xb.1 := ⟨_, rfl⟩
      rw [← hsb] at p1
      have hdl := dkeep_len keep (D.w.take k) 0 D.s
      obtain ⟨S1, hS1⟩ : ∃ S1, S1 = dkeep keep 0 D.s (D.w.take k) := ⟨_, rfl⟩
      obtain ⟨S2, hS2⟩ : ∃ S2, S2 = dkeep keep 0 D.s (D.w.take (k + 1)) := ⟨_, rfl⟩
      rw [← hS1] at hdl hda HF
      rw [← hS2] at hda
      obtain ⟨oc, hoc⟩ : ∃ oc, oc = outc keep k := ⟨_, rfl⟩
      rw [← hoc] at hda
      have HP1 : Hid (oc = 1 → ∀ W, RfAt W L m qo p { D with s := S1 } → L ≤ W.heap.size → Calls Try.prog 30 #[.pointer (some ⟨m, 0, none⟩), .int .i64 (j : Int), .string sb] W fun e w' => e = .returned (.tuple #[]) ∧ ∃ q', RfAt w' L m q' p { D with s := S2 } ∧ Turn3 W w' m m none ∧ RowN W qo q' ∧ w'.cell? ⟨m, 1, none⟩ = W.cell? ⟨m, 1, none⟩) := Lib.hid (fun ho W hh hl => by
        have := rput_any L m qo p { D with s := S1 } j (xb, false) sb (by rw [hsb]; rfl) W hh (by dsimp only; rw [hdl]; omega) (by dsimp only; rw [hdl]; exact HSE.out) hl
        rw [hda]
        unfold dsettle
        rw [if_pos ho]
        exact this)
      have HP2 : Hid (oc = 2 → ∀ W, RfAt W L m qo p { D with s := S1 } → L ≤ W.heap.size → Calls Try.prog 30 #[.pointer (some ⟨m, 0, none⟩), .int .i64 (j : Int), .string ⟨#[]⟩] W fun e w' => e = .returned (.tuple #[]) ∧ ∃ q', RfAt w' L m q' p { D with s := S2 } ∧ Turn3 W w' m m none ∧ RowN W qo q' ∧ w'.cell? ⟨m, 1, none⟩ = W.cell? ⟨m, 1, none⟩) := Lib.hid (fun ho W hh hl => by
        have := rput_any L m qo p { D with s := S1 } j ((S1.getD j (z64, false)).1, true) ⟨#[]⟩ rfl W hh (by dsimp only; rw [hdl]; omega) (by dsimp only; rw [hdl]; exact HSE.out) hl
        rw [hda]
        unfold dsettle
        rw [if_neg (by omega), if_pos ho]
        exact this)
      have HSAME : Hid (oc = 0 → S2 = S1) := Lib.hid (fun ho => by
        rw [hda]
        unfold dsettle
        rw [if_neg (by omega), if_neg (by omega)])
      have HH := Lib.hid HF.out.drew
      have hS : wr.drew.cell? ⟨m, 1, none⟩ = some (.slice (some ⟨g2, 0, none⟩) nw c') ∧ wr.drew.cell? ⟨g2, k * 2, none⟩ = some (.int .i64 (j : Int)) ∧ wr.drew.cell? ⟨g2, k * 2 + 1, none⟩ = some (.string sb) := ⟨k1, p0, p1⟩
      have hz0 : L ≤ wr.drew.heap.size := hzr
      have hg0 : g2 < wr.drew.heap.size := hb2
      have HT0 : Hid (Turn3 w wr.drew m m none) := Lib.hid (HT.out.trans (Turn3.of_below (Below.refl wr.heap.size wr).drew m m none) (RowN.refl _ _))
      have HS2 := Lib.hid hS2
      clear hr2 hid hda hsb hdl hS1
      have hkeep := HSEE.out wr HT.out
      by_cases hk9 : k < n1
      · have d9 : decide ((k : Int) < (n1 : Int)) = true := decide_eq_true (by omega)
        have hkk : k < keep.length := by rw [HKL.out]; exact hk9
        obtain ⟨bk, ok, ek, hbk, hck⟩ := hkeep.int k hkk
        subst ek
        have hp := outc_pos hkk
        have hn := outc_neg hkk
        rw [← hoc] at hp hn
        generalize keep[k] = z at hck hp hn
        clear hoc hbk
        by_cases hz0' : 0 ≤ z
        · have dz : decide (0 ≤ z) = true := decide_eq_true hz0'
          have hp := hp hz0'
          have t1 : Int.tmod z 3 = oc := by rw [hp]; exact Int.tmod_eq_emod_of_nonneg (by omega)
          have t2 : z % 3 = oc := hp.symm
          have h012 : oc = 0 ∨ oc = 1 ∨ oc = 2 := by omega
          clear hp hn
          rcases h012 with h0 | h0 | h0
          · replace HSAME : Hid (RfAt wr L m qo p { D with s := dkeep keep 0 D.s (D.w.take (k + 1)) }) := Lib.hid (by rw [← HS2.out, HSAME.out h0]; exact HF.out)
            subst h0
            have HREM := Lib.hid t1
            clear HP1 HP2 hS t1 t2
            go_wp2_with (first
              | (refine wpList_exec (by rfl) (.int .i64 0) (exec_rem3 (.tmp 29) _ _ rfl z 0 rfl rfl HREM.out) ?_)
              | fail)
            go_roundw
            case rel => exact ⟨k + 1, by omega, by go_num, qo, HSAME.out, HT, HQ⟩
            case measure => simp [intOf]; omega
          · replace HP1 := Lib.hid (HP1.out h0)
            rw [HS2.out] at HP1
            subst h0
            have HREM := Lib.hid t1
            clear HP2 HSAME t1 t2
            go_wp2_with (first
              | (refine wpList_exec (by rfl) (.int .i64 1) (exec_rem3 (.tmp 29) _ _ rfl z 1 rfl rfl HREM.out) ?_)
              | fail)
            clear k1 p0 p1
            refine wp_region_held (S := fun wx => wx.cell? ⟨m, 1, none⟩ = some (.slice (some ⟨g2, 0, none⟩) nw c') ∧ wx.cell? ⟨g2, k * 2, none⟩ = some (.int .i64 (j : Int)) ∧ wx.cell? ⟨g2, k * 2 + 1, none⟩ = some (.string sb)) (by kernel_rfl) ?_
            show Go.wpAnyH Try.prog Region.Mode.any _ _ _ _ _ _ wr.drew
            generalize wr.drew = wd at hS HH hz0 hg0 HT0 ⊢
            refine takeH (i := 0) (oi := _) (v := (.pointer (some ⟨m, 0, none⟩))) (fuel := 17) (some 33) rfl rfl (by kernel_rfl) (by kernel_rfl) (by kernel_rfl) (fun _ _ _ h => h) (.inl ⟨by rfl, fun wx hS => by simp [go_sem]⟩) hS ?_
            simp only [Act.put, List.setIfInBounds_toArray, List.set_cons_zero, List.set_cons_succ]
            refine takeH (i := 1) (oi := _) (v := (.pointer (some ⟨m, 0, none⟩))) (fuel := 16) (some 34) rfl rfl (by kernel_rfl) (by kernel_rfl) (by kernel_rfl) (fun _ _ _ h => h) (.inl ⟨by rfl, fun wx hS => by simp [go_sem]⟩) hS ?_
            simp only [Act.put, List.setIfInBounds_toArray, List.set_cons_zero, List.set_cons_succ]
            refine takeH (i := 2) (oi := _) (v := (.pointer (some ⟨m, 0, none⟩))) (fuel := 15) (some 35) rfl rfl (by kernel_rfl) (by kernel_rfl) (by kernel_rfl) (fun _ _ _ h => h) (.inl ⟨by rfl, fun wx hS => by simp [go_sem]⟩) hS ?_
            simp only [Act.put, List.setIfInBounds_toArray, List.set_cons_zero, List.set_cons_succ]
            refine takeH (i := 3) (oi := _) (v := (.pointer (some ⟨m, 1, none⟩))) (fuel := 14) (some 36) rfl rfl (by kernel_rfl) (by kernel_rfl) (by kernel_rfl) (fun _ _ _ h => h) (.inl ⟨by rfl, fun wx hS => by simp [go_sem]⟩) hS ?_
            simp only [Act.put, List.setIfInBounds_toArray, List.set_cons_zero, List.set_cons_succ]
            refine takeH (i := 4) (oi := _) (v := (.slice (some ⟨g2, 0, none⟩) nw c')) (fuel := 13) (some 37) rfl rfl (by kernel_rfl) (by kernel_rfl) (by kernel_rfl) (fun _ _ _ h => h) (.inl ⟨by rfl, fun wx hS => by simp [go_sem, hS.1]⟩) hS ?_
            simp only [Act.put, List.setIfInBounds_toArray, List.set_cons_zero, List.set_cons_succ]
            refine takeH (i := 5) (oi := _) (v := (.int .i64 (k : Int))) (fuel := 12) (some 38) rfl rfl (by kernel_rfl) (by kernel_rfl) (by kernel_rfl) (fun _ _ _ h => h) (.inl ⟨by rfl, fun wx hS => by simp [go_sem]⟩) hS ?_
            simp only [Act.put, List.setIfInBounds_toArray, List.set_cons_zero, List.set_cons_succ]
            refine takeH (i := 6) (oi := _) (v := (.pointer (some ⟨g2, k * 2, none⟩))) (fuel := 11) (some 39) rfl rfl (by kernel_rfl) (by kernel_rfl) (by kernel_rfl) (fun _ _ _ h => h) (.inl ⟨by rfl, fun wx hS => by simp [go_sem, hkn]⟩) hS ?_
            simp only [Act.put, List.setIfInBounds_toArray, List.set_cons_zero, List.set_cons_succ]
            refine takeH (i := 7) (oi := _) (v := (.pointer (some ⟨g2, k * 2, none⟩))) (fuel := 10) (some 40) rfl rfl (by kernel_rfl) (by kernel_rfl) (by kernel_rfl) (fun _ _ _ h => h) (.inl ⟨by rfl, fun wx hS => by simp [go_sem]⟩) hS ?_
            simp only [Act.put, List.setIfInBounds_toArray, List.set_cons_zero, List.set_cons_succ]
            refine takeH (i := 8) (oi := _) (v := (.int .i64 (j : Int))) (fuel := 9) (some 41) rfl rfl (by kernel_rfl) (by kernel_rfl) (by kernel_rfl) (fun _ _ _ h => h) (.inl ⟨by rfl, fun wx hS => by simp [go_sem, hS.2.1]⟩) hS ?_
            simp only [Act.put, List.setIfInBounds_toArray, List.set_cons_zero, List.set_cons_succ]
            refine takeH (i := 9) (oi := _) (v := (.pointer (some ⟨m, 0, none⟩))) (fuel := 8) (some 42) rfl rfl (by kernel_rfl) (by kernel_rfl) (by kernel_rfl) (fun _ _ _ h => h) (.inl ⟨by rfl, fun wx hS => by simp [go_sem]⟩) hS ?_
            simp only [Act.put, List.setIfInBounds_toArray, List.set_cons_zero, List.set_cons_succ]
            refine takeH (i := 10) (oi := _) (v := (.pointer (some ⟨m, 0, none⟩))) (fuel := 7) (some 43) rfl rfl (by kernel_rfl) (by kernel_rfl) (by kernel_rfl) (fun _ _ _ h => h) (.inl ⟨by rfl, fun wx hS => by simp [go_sem]⟩) hS ?_
            simp only [Act.put, List.setIfInBounds_toArray, List.set_cons_zero, List.set_cons_succ]
            refine takeH (i := 11) (oi := _) (v := (.pointer (some ⟨m, 1, none⟩))) (fuel := 6) (some 44) rfl rfl (by kernel_rfl) (by kernel_rfl) (by kernel_rfl) (fun _ _ _ h => h) (.inl ⟨by rfl, fun wx hS => by simp [go_sem]⟩) hS ?_
            simp only [Act.put, List.setIfInBounds_toArray, List.set_cons_zero, List.set_cons_succ]
            refine takeH (i := 12) (oi := _) (v := (.slice (some ⟨g2, 0, none⟩) nw c')) (fuel := 5) (some 45) rfl rfl (by kernel_rfl) (by kernel_rfl) (by kernel_rfl) (fun _ _ _ h => h) (.inl ⟨by rfl, fun wx hS => by simp [go_sem, hS.1]⟩) hS ?_
            simp only [Act.put, List.setIfInBounds_toArray, List.set_cons_zero, List.set_cons_succ]
            refine takeH (i := 13) (oi := _) (v := (.int .i64 (k : Int))) (fuel := 4) (some 46) rfl rfl (by kernel_rfl) (by kernel_rfl) (by kernel_rfl) (fun _ _ _ h => h) (.inl ⟨by rfl, fun wx hS => by simp [go_sem]⟩) hS ?_
            simp only [Act.put, List.setIfInBounds_toArray, List.set_cons_zero, List.set_cons_succ]
            refine takeH (i := 14) (oi := _) (v := (.pointer (some ⟨g2, k * 2, none⟩))) (fuel := 3) (some 47) rfl rfl (by kernel_rfl) (by kernel_rfl) (by kernel_rfl) (fun _ _ _ h => h) (.inl ⟨by rfl, fun wx hS => by simp [go_sem, hkn]⟩) hS ?_
            simp only [Act.put, List.setIfInBounds_toArray, List.set_cons_zero, List.set_cons_succ]
            refine takeH (i := 15) (oi := _) (v := (.pointer (some ⟨g2, k * 2 + 1, none⟩))) (fuel := 2) (some 48) rfl rfl (by kernel_rfl) (by kernel_rfl) (by kernel_rfl) (fun _ _ _ h => h) (.inl ⟨by rfl, fun wx hS => by simp [go_sem]⟩) hS ?_
            simp only [Act.put, List.setIfInBounds_toArray, List.set_cons_zero, List.set_cons_succ]
            refine takeH (i := 16) (oi := _) (v := (.string sb)) (fuel := 1) (some 49) rfl rfl (by kernel_rfl) (by kernel_rfl) (by kernel_rfl) (fun _ _ _ h => h) (.inl ⟨by rfl, fun wx hS => by simp [go_sem, hS.2.2]⟩) hS ?_
            simp only [Act.put, List.setIfInBounds_toArray, List.set_cons_zero, List.set_cons_succ]
            refine allH [17] 17 (fuel := 0) (by kernel_rfl) ?_
            refine callH (some 50) _ rfl rfl 30 #[.pointer (some ⟨m, 0, none⟩), .int .i64 (j : Int), .string sb] (by simp [go_sem]) (by rfl) ?_
            refine (HP1.out wd HH.out hz0).mono ?_
            rintro e w4 ⟨rfl, q4, H4, T4, R4, c4⟩
            have hS4 : w4.cell? ⟨m, 1, none⟩ = some (.slice (some ⟨g2, 0, none⟩) nw c') ∧ w4.cell? ⟨g2, k * 2, none⟩ = some (.int .i64 (j : Int)) ∧ w4.cell? ⟨g2, k * 2 + 1, none⟩ = some (.string sb) := ⟨c4.trans hS.1, (T4.cell hg0 hbm).trans hS.2.1, (T4.cell hg0 hbm).trans hS.2.2⟩
            refine ⟨_, rfl, hS4, ?_⟩
            have H4 := Lib.hid H4
            have HT4 := Lib.hid (HT0.out.trans T4 (RowN.none _ _))
            have HQ4 : Hid (RowN w q q4) := Lib.hid (fun z hz => by
              rcases R4 z hz with h5 | h5
              · exact HQ.out z h5
              · exact .inr (Nat.le_trans HT0.out.size h5))
            clear hS hS4 c4 T4 R4
            simp only [Act.put, List.setIfInBounds_toArray, List.set_cons_zero, List.set_cons_succ]
            refine wpAnyH_done (by kernel_rfl) ?_ 0
            go_wp2_with fail
            go_roundw
            case rel => exact ⟨k + 1, by omega, by go_num, q4, H4, HT4, HQ4⟩
            case measure => simp [intOf]; omega
          · replace HP2 := Lib.hid (HP2.out h0)
            rw [HS2.out] at HP2
            subst h0
            have HREM := Lib.hid t1
            clear HP1 HSAME hS t1 t2
            go_wp2_with (first
              | (refine wpList_exec (by rfl) (.int .i64 2) (exec_rem3 (.tmp 29) _ _ rfl z 2 rfl rfl HREM.out) ?_)
              | fail)
            clear k1 p0 p1
            refine (HP2.out _ HF.out hzr).mono ?_
            rintro e w4 ⟨rfl, q4, H4, T4, R4, c4⟩
            have H4 := Lib.hid H4
            have HT4 := Lib.hid (HT.out.trans T4 (RowN.none _ _))
            have HQ4 : Hid (RowN w q q4) := Lib.hid (fun z hz => by
              rcases R4 z hz with h5 | h5
              · exact HQ.out z h5
              · exact .inr (Nat.le_trans HT.out.size h5))
            clear c4 T4 R4
            go_wp2_with fail
            go_roundw
            case rel => exact ⟨k + 1, by omega, by go_num, q4, H4, HT4, HQ4⟩
            case measure => simp [intOf]; omega
        · have dz : decide (0 ≤ z) = false := decide_eq_false hz0'
          replace HSAME : Hid (RfAt wr L m qo p { D with s := dkeep keep 0 D.s (D.w.take (k + 1)) }) := Lib.hid (by rw [← HS2.out, HSAME.out (hn hz0')]; exact HF.out)
          clear HP1 HP2 hS hp hn
          go_wp2_with fail
          go_roundw
          case rel => exact ⟨k + 1, by omega, by go_num, qo, HSAME.out, HT, HQ⟩
          case measure => simp [intOf]; omega
      · have d9 : decide ((k : Int) < (n1 : Int)) = false := decide_eq_false (by omega)
        have ho := hoc.trans (outc_no (by rw [HKL.out]; omega))
        replace HSAME : Hid (RfAt wr L m qo p { D with s := dkeep keep 0 D.s (D.w.take (k + 1)) }) := Lib.hid (by rw [← HS2.out, HSAME.out ho]; exact HF.out)
        clear HP1 HP2 hS hoc ho
        go_wp2_with fail
        go_roundw
        case rel => exact ⟨k + 1, by omega, by go_num, qo, HSAME.out, HT, HQ⟩
        case measure => simp [intOf]; omega
    · obtain rfl : nw = k := by omega
      have d1 : decide ((nw : Int) < (nw : Int)) = false := by simp
      have hz1 := hz 1
      have hz2 := hz 2
      have hz3 := hz 3
      have HN := Lib.hid ((HF.out.setNone.setDead false).setFuse (-1))
      have HTT := Lib.hid (((HT.out.trans (Turn3.set wr m m m 1 none (.slice none 0 0) (.inl rfl)) (RowN.refl _ _)).trans (Turn3.set _ m m m 3 none (.bool false) (.inl rfl)) (RowN.refl _ _)).trans (Turn3.set _ m m m 2 none (.int .i64 (-1)) (.inl rfl)) (RowN.refl _ _))
      have e9 : D.w.take nw = D.w := by rw [HNW.out]; exact List.take_length
      rw [e9] at HN
      clear e9 r2 e2 hz
      go_wp2_with fail
      go_end0
      exact ⟨rfl, qo, HN.out, HTT.out, HQ.out⟩
end Go.Proofs.Ytjnfdhjnfginpaa
