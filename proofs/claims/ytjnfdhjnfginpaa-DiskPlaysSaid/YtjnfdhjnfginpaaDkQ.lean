/- Disks: the document's disk: Sync. -/
import Derived.Test.YtjnfdhjnfginpaaDkO
namespace Go.Proofs.Ytjnfdhjnfginpaa
set_option linter.unusedVariables false
set_option linter.unusedSimpArgs false
open Go Go.RowKit

theorem dsync_ok {D : Dk} (h0 : D.dead = false) (h : (dstep D).2 = 0) : dsync D = ({ (dstep D).1 with s := dall (dstep D).1.s (dstep D).1.w, w := [] }, 0) := by
  unfold dsync
  rw [h0, if_neg (by simp), if_pos h, (dstep_s D).1, (dstep_s D).2]
theorem dstep_two (D : Dk) : (dstep D).2 = if D.fuse = 0 then 15 else 0 := by
  unfold dstep
  split
  · rfl
  · split <;> rfl
theorem Turn3.mm {w w' : World} {m : Nat} (h : Turn3 w w' m m none) {L : Nat} (hL : L ≤ m) (hz : L ≤ w.heap.size) : Below L w w' := h.below hL hL (fun k e => by cases e) hz
set_option maxRecDepth 100000 in
set_option maxHeartbeats 3200000 in
theorem rsync_any (L m : Nat) (q p : Option Nat) (D : Dk) (w : World) (h : RfAt w L m q p D) (hin : DIn D) (hf : -9223372036854775808 ≤ D.fuse ∧ D.fuse ≤ 9223372036854775807) (hw : D.w.length ≤ 65536) (hs : D.s.length ≤ 65536) (hL : L ≤ w.heap.size) :
    Calls Try.prog 22 #[.pointer (some ⟨m, 0, none⟩)] w fun e w' => e = .returned (.int .i64 (dsync D).2) ∧ ∃ q' p', RfAt w' L m q' p' (dsync D).1 ∧ Turn3 w w' m m none ∧ RowN w q q' ∧ RowN w p p' := by
  obtain ⟨A, c, A', c', h0, h1, h2, h3, hr1, hr2, e1, e2, hz⟩ := h.cells
  clear hr1 hr2 e1 e2 hz h0 h1 h2
  have hm := h.lt
  cases hd : D.dead with
  | true =>
    rw [hd] at h3
    have HR : Hid (dsync D = (D, 15)) := Lib.hid (by unfold dsync; rw [hd]; rfl)
    have H := Lib.hid h
    clear h hd hin
    go_enter Try.func22, Try.ntmps22
    go_wp2_with fail
    go_ret
    exact ⟨by rw [HR.out]; rfl, q, p, by rw [HR.out]; exact H.out, Turn3.refl _ _ _ _, RowN.refl _ _, RowN.refl _ _⟩
  | false =>
    rw [hd] at h3
    have HST := rstep_any L m q p D w h hf
    by_cases f0 : D.fuse = 0
    · rw [decide_eq_true f0] at HST
      have HR : Hid (dsync D = ((dstep D).1, 15)) := Lib.hid (by
        have := dstep_two D
        rw [if_pos f0] at this
        unfold dsync
        rw [hd, if_neg (by simp), this, if_neg (by decide), ← this])
      replace HST := Lib.hid HST
      clear h hd hin f0
      go_enter Try.func22, Try.ntmps22
      go_wp2_with fail
      refine HST.out.mono ?_
      rintro e w1 ⟨rfl, H1, T1⟩
      replace H1 := Lib.hid H1
      replace T1 := Lib.hid T1
      go_wp2_with fail
      go_ret
      exact ⟨by rw [HR.out]; rfl, q, p, by rw [HR.out]; exact H1.out, T1.out, RowN.refl _ _, RowN.refl _ _⟩
    · rw [decide_eq_false f0] at HST
      have hz2 : (dstep D).2 = 0 := by rw [dstep_two, if_neg f0]
      have HR := dsync_ok hd hz2
      have hin1 := hin.step
      have hs1 := (dstep_s D).1
      have hw1 := (dstep_s D).2
      obtain ⟨E, hE⟩ : ∃ E, E = (dstep D).1 := ⟨_, rfl⟩
      rw [← hE] at HR HST hin1 hs1 hw1
      rw [← hw1] at hw
      rw [← hs1] at hs
      replace HR := Lib.hid HR
      replace HST := Lib.hid HST
      have HIN := Lib.hid hin1
      have HSE := Lib.hid hs
      obtain ⟨nw, hnw⟩ : ∃ nw, nw = E.w.length := ⟨_, rfl⟩
      rw [← hnw] at hw
      have HNW := Lib.hid hnw
      have H0 : Hid (dall E.s (E.w.take 0) = E.s) := Lib.hid rfl
      clear h hd hin hin1 f0 hz2 hs1 hw1 hE hs hnw hf
      go_enter Try.func22, Try.ntmps22
      go_wp2_with fail
      refine HST.out.mono ?_
      rintro e w1 ⟨rfl, H1, T1⟩
      replace H1 := Lib.hid H1
      replace T1 := Lib.hid T1
      have HQ0 : Hid (RowN w q q) := Lib.hid (RowN.refl _ _)
      clear HST h3
      go_wp2_with fail
      go_loopw [3] (fun i wr => ∃ k : Nat, k ≤ nw ∧ i = .int .i64 (k : Int) ∧ ∃ q', Hid (RfAt wr L m q' p { E with s := dall E.s (E.w.take k) }) ∧ Hid (Turn3 w wr m m none) ∧ Hid (RowN w q q')) (fun i _ => nw - (intOf i).toNat)
      case atStart => exact ⟨0, by omega, rfl, q, H1, T1, HQ0⟩
      case round =>
        clear H1 T1 HQ0 H0
        obtain ⟨k, hk, rfl, q', HF, HT, HQ⟩ := hrel
        obtain ⟨A, c, A', c', k0, k1, k2, k3, r1, r2, e1, e2, hz⟩ := HF.out.cells
        dsimp only at k1 r2
        rw [← HNW.out] at k1
        have hz1 := hz 1
        have hmr := HF.out.lt
        have hzr : L ≤ wr.heap.size := Nat.le_trans hL HT.out.size
        clear k0 k2 k3 r1 e1 hz
        by_cases hlt : k < nw
        · have d1 : decide ((k : Int) < (nw : Int)) = true := decide_eq_true (by omega)
          have hkl : k < E.w.length := by rw [← HNW.out]; exact hlt
          have hkn : ¬ nw ≤ k := by omega
          obtain ⟨g2, eg⟩ := row_some r2 (by omega)
          obtain ⟨b2, o2, e3, hb2, hr2⟩ := sees_rw (wtl_len _) (row_sees r2) (by decide : 0 < 2) k hkl
          subst eg
          injection e3 with e3
          injection e3 with e3 e4
          subst e3
          subst e4
          have hbm : g2 ≠ m := fun e => HF.out.pm (by rw [e2, e]; rfl)
          clear e2
          have hid := HIN.out _ (List.getElem_mem hkl)
          have hda := dall_take E.s E.w k hkl
          obtain ⟨x, hx⟩ : ∃ x, x = E.w[k] := ⟨_, rfl⟩
          rw [← hx] at hr2 hid hda
          clear hx r2
          obtain ⟨xa, xb⟩ := x
          unfold dhas at hid
          rw [decide_eq_true_eq] at hid
          dsimp only at hid
          obtain ⟨j, rfl⟩ : ∃ j : Nat, xa = (j : Int) := ⟨xa.toNat, by omega⟩
          rw [Nat.zero_add] at hr2
          have p0 : wr.cell? ⟨g2, k * 2, none⟩ = some (.int .i64 (j : Int)) := hr2 0 _ rfl
          have p1 : wr.cell? ⟨g2, k * 2 + 1, none⟩ = some (.string (str xb.1)) := hr2 1 _ rfl
          obtain ⟨sb, hsb⟩ : ∃ sb, sb = str xb.1 := ⟨_, rfl⟩
          rw [← hsb] at p1
          have hdl := dall_len (E.w.take k) E.s
          obtain ⟨qo, hqo⟩ : ∃ qo, qo = q' := ⟨_, rfl⟩
          rw [← hqo] at HF HQ
          have HPT : Hid (∀ W, RfAt W L m qo p { E with s := dall E.s (E.w.take k) } → L ≤ W.heap.size → Calls Try.prog 30 #[.pointer (some ⟨m, 0, none⟩), .int .i64 (j : Int), .string sb] W fun e w' => e = .returned (.tuple #[]) ∧ ∃ q', RfAt w' L m q' p { E with s := dall E.s (E.w.take (k + 1)) } ∧ Turn3 W w' m m none ∧ RowN W qo q' ∧ w'.cell? ⟨m, 1, none⟩ = W.cell? ⟨m, 1, none⟩) := Lib.hid (fun W hh hl => by
            have := rput_any L m qo p { E with s := dall E.s (E.w.take k) } j (xb, false) sb (by rw [hsb]; rfl) W hh (by dsimp only; rw [hdl]; omega) (by dsimp only; rw [hdl]; exact HSE.out) hl
            rw [hda]
            unfold dsettle
            rw [if_pos rfl]
            exact this)
          clear hr2 hid hda hsb hdl hqo q'
          have HH := Lib.hid HF.out.drew
          have hS : wr.drew.cell? ⟨m, 1, none⟩ = some (.slice (some ⟨g2, 0, none⟩) nw c') ∧ wr.drew.cell? ⟨g2, k * 2, none⟩ = some (.int .i64 (j : Int)) ∧ wr.drew.cell? ⟨g2, k * 2 + 1, none⟩ = some (.string sb) := ⟨k1, p0, p1⟩
          have hz0 : L ≤ wr.drew.heap.size := hzr
          have hg0 : g2 < wr.drew.heap.size := hb2
          have HT0 : Hid (Turn3 w wr.drew m m none) := Lib.hid (HT.out.trans (Turn3.of_below (Below.refl wr.heap.size wr).drew m m none) (RowN.refl _ _))
          go_wp2_with fail
          clear k1 p0 p1
          refine wp_region_held (S := fun wx => wx.cell? ⟨m, 1, none⟩ = some (.slice (some ⟨g2, 0, none⟩) nw c') ∧ wx.cell? ⟨g2, k * 2, none⟩ = some (.int .i64 (j : Int)) ∧ wx.cell? ⟨g2, k * 2 + 1, none⟩ = some (.string sb)) (by kernel_rfl) ?_
          show Go.wpAnyH Try.prog Region.Mode.any _ _ _ _ _ _ wr.drew
          generalize wr.drew = wd at hS HH hz0 hg0 HT0 ⊢
          refine takeH (i := 0) (oi := _) (v := (.pointer (some ⟨m, 0, none⟩))) (fuel := 17) (some 21) rfl rfl (by kernel_rfl) (by kernel_rfl) (by kernel_rfl) (fun _ _ _ h => h) (.inl ⟨by rfl, fun wx hS => by simp [go_sem]⟩) hS ?_
          simp only [Act.put, List.setIfInBounds_toArray, List.set_cons_zero, List.set_cons_succ]
          refine takeH (i := 1) (oi := _) (v := (.pointer (some ⟨m, 0, none⟩))) (fuel := 16) (some 22) rfl rfl (by kernel_rfl) (by kernel_rfl) (by kernel_rfl) (fun _ _ _ h => h) (.inl ⟨by rfl, fun wx hS => by simp [go_sem]⟩) hS ?_
          simp only [Act.put, List.setIfInBounds_toArray, List.set_cons_zero, List.set_cons_succ]
          refine takeH (i := 2) (oi := _) (v := (.pointer (some ⟨m, 0, none⟩))) (fuel := 15) (some 23) rfl rfl (by kernel_rfl) (by kernel_rfl) (by kernel_rfl) (fun _ _ _ h => h) (.inl ⟨by rfl, fun wx hS => by simp [go_sem]⟩) hS ?_
          simp only [Act.put, List.setIfInBounds_toArray, List.set_cons_zero, List.set_cons_succ]
          refine takeH (i := 3) (oi := _) (v := (.pointer (some ⟨m, 1, none⟩))) (fuel := 14) (some 24) rfl rfl (by kernel_rfl) (by kernel_rfl) (by kernel_rfl) (fun _ _ _ h => h) (.inl ⟨by rfl, fun wx hS => by simp [go_sem]⟩) hS ?_
          simp only [Act.put, List.setIfInBounds_toArray, List.set_cons_zero, List.set_cons_succ]
          refine takeH (i := 4) (oi := _) (v := (.slice (some ⟨g2, 0, none⟩) nw c')) (fuel := 13) (some 25) rfl rfl (by kernel_rfl) (by kernel_rfl) (by kernel_rfl) (fun _ _ _ h => h) (.inl ⟨by rfl, fun wx hS => by simp [go_sem, hS.1]⟩) hS ?_
          simp only [Act.put, List.setIfInBounds_toArray, List.set_cons_zero, List.set_cons_succ]
          refine takeH (i := 5) (oi := _) (v := (.int .i64 (k : Int))) (fuel := 12) (some 26) rfl rfl (by kernel_rfl) (by kernel_rfl) (by kernel_rfl) (fun _ _ _ h => h) (.inl ⟨by rfl, fun wx hS => by simp [go_sem]⟩) hS ?_
          simp only [Act.put, List.setIfInBounds_toArray, List.set_cons_zero, List.set_cons_succ]
          refine takeH (i := 6) (oi := _) (v := (.pointer (some ⟨g2, k * 2, none⟩))) (fuel := 11) (some 27) rfl rfl (by kernel_rfl) (by kernel_rfl) (by kernel_rfl) (fun _ _ _ h => h) (.inl ⟨by rfl, fun wx hS => by simp [go_sem, hkn]⟩) hS ?_
          simp only [Act.put, List.setIfInBounds_toArray, List.set_cons_zero, List.set_cons_succ]
          refine takeH (i := 7) (oi := _) (v := (.pointer (some ⟨g2, k * 2, none⟩))) (fuel := 10) (some 28) rfl rfl (by kernel_rfl) (by kernel_rfl) (by kernel_rfl) (fun _ _ _ h => h) (.inl ⟨by rfl, fun wx hS => by simp [go_sem]⟩) hS ?_
          simp only [Act.put, List.setIfInBounds_toArray, List.set_cons_zero, List.set_cons_succ]
          refine takeH (i := 8) (oi := _) (v := (.int .i64 (j : Int))) (fuel := 9) (some 29) rfl rfl (by kernel_rfl) (by kernel_rfl) (by kernel_rfl) (fun _ _ _ h => h) (.inl ⟨by rfl, fun wx hS => by simp [go_sem, hS.2.1]⟩) hS ?_
          simp only [Act.put, List.setIfInBounds_toArray, List.set_cons_zero, List.set_cons_succ]
          refine takeH (i := 9) (oi := _) (v := (.pointer (some ⟨m, 0, none⟩))) (fuel := 8) (some 30) rfl rfl (by kernel_rfl) (by kernel_rfl) (by kernel_rfl) (fun _ _ _ h => h) (.inl ⟨by rfl, fun wx hS => by simp [go_sem]⟩) hS ?_
          simp only [Act.put, List.setIfInBounds_toArray, List.set_cons_zero, List.set_cons_succ]
          refine takeH (i := 10) (oi := _) (v := (.pointer (some ⟨m, 0, none⟩))) (fuel := 7) (some 31) rfl rfl (by kernel_rfl) (by kernel_rfl) (by kernel_rfl) (fun _ _ _ h => h) (.inl ⟨by rfl, fun wx hS => by simp [go_sem]⟩) hS ?_
          simp only [Act.put, List.setIfInBounds_toArray, List.set_cons_zero, List.set_cons_succ]
          refine takeH (i := 11) (oi := _) (v := (.pointer (some ⟨m, 1, none⟩))) (fuel := 6) (some 32) rfl rfl (by kernel_rfl) (by kernel_rfl) (by kernel_rfl) (fun _ _ _ h => h) (.inl ⟨by rfl, fun wx hS => by simp [go_sem]⟩) hS ?_
          simp only [Act.put, List.setIfInBounds_toArray, List.set_cons_zero, List.set_cons_succ]
          refine takeH (i := 12) (oi := _) (v := (.slice (some ⟨g2, 0, none⟩) nw c')) (fuel := 5) (some 33) rfl rfl (by kernel_rfl) (by kernel_rfl) (by kernel_rfl) (fun _ _ _ h => h) (.inl ⟨by rfl, fun wx hS => by simp [go_sem, hS.1]⟩) hS ?_
          simp only [Act.put, List.setIfInBounds_toArray, List.set_cons_zero, List.set_cons_succ]
          refine takeH (i := 13) (oi := _) (v := (.int .i64 (k : Int))) (fuel := 4) (some 34) rfl rfl (by kernel_rfl) (by kernel_rfl) (by kernel_rfl) (fun _ _ _ h => h) (.inl ⟨by rfl, fun wx hS => by simp [go_sem]⟩) hS ?_
          simp only [Act.put, List.setIfInBounds_toArray, List.set_cons_zero, List.set_cons_succ]
          refine takeH (i := 14) (oi := _) (v := (.pointer (some ⟨g2, k * 2, none⟩))) (fuel := 3) (some 35) rfl rfl (by kernel_rfl) (by kernel_rfl) (by kernel_rfl) (fun _ _ _ h => h) (.inl ⟨by rfl, fun wx hS => by simp [go_sem, hkn]⟩) hS ?_
          simp only [Act.put, List.setIfInBounds_toArray, List.set_cons_zero, List.set_cons_succ]
          refine takeH (i := 15) (oi := _) (v := (.pointer (some ⟨g2, k * 2 + 1, none⟩))) (fuel := 2) (some 36) rfl rfl (by kernel_rfl) (by kernel_rfl) (by kernel_rfl) (fun _ _ _ h => h) (.inl ⟨by rfl, fun wx hS => by simp [go_sem]⟩) hS ?_
          simp only [Act.put, List.setIfInBounds_toArray, List.set_cons_zero, List.set_cons_succ]
          refine takeH (i := 16) (oi := _) (v := (.string sb)) (fuel := 1) (some 37) rfl rfl (by kernel_rfl) (by kernel_rfl) (by kernel_rfl) (fun _ _ _ h => h) (.inl ⟨by rfl, fun wx hS => by simp [go_sem, hS.2.2]⟩) hS ?_
          simp only [Act.put, List.setIfInBounds_toArray, List.set_cons_zero, List.set_cons_succ]
          refine allH [17] 17 (fuel := 0) (by kernel_rfl) ?_
          refine callH (some 38) _ rfl rfl 30 #[.pointer (some ⟨m, 0, none⟩), .int .i64 (j : Int), .string sb] (by simp [go_sem]) (by rfl) ?_
          refine (HPT.out wd HH.out hz0).mono ?_
          rintro e w4 ⟨rfl, q4, H4, T4, R4, c4⟩
          have hS4 : w4.cell? ⟨m, 1, none⟩ = some (.slice (some ⟨g2, 0, none⟩) nw c') ∧ w4.cell? ⟨g2, k * 2, none⟩ = some (.int .i64 (j : Int)) ∧ w4.cell? ⟨g2, k * 2 + 1, none⟩ = some (.string sb) := ⟨c4.trans hS.1, (T4.cell hg0 hbm).trans hS.2.1, (T4.cell hg0 hbm).trans hS.2.2⟩
          refine ⟨_, rfl, hS4, ?_⟩
          have H4 := Lib.hid H4
          have HT4 := Lib.hid (HT0.out.trans T4 (RowN.none _ _))
          have HQ4 : Hid (RowN w q q4) := Lib.hid (fun z hz => by
            rcases R4 z hz with h5 | h5
            · exact HQ.out z h5
            · exact .inr (Nat.le_trans HT0.out.size h5))
          clear hS hS4 c4 T4 R4
          simp only [Act.put, List.setIfInBounds_toArray, List.set_cons_zero, List.set_cons_succ]
          refine wpAnyH_done (by kernel_rfl) ?_ 0
          go_wp2_with fail
          go_roundw
          case rel => exact ⟨k + 1, by omega, by go_num, q4, H4, HT4, HQ4⟩
          case measure => simp [intOf]; omega
        · obtain rfl : nw = k := by omega
          have d1 : decide ((nw : Int) < (nw : Int)) = false := by simp
          have HN := Lib.hid HF.out.setNone
          have HTT := Lib.hid (HT.out.trans (Turn3.set wr m m m 1 none (.slice none 0 0) (.inl rfl)) (RowN.refl _ _))
          have e9 : E.w.take nw = E.w := by rw [HNW.out]; exact List.take_length
          rw [e9] at HN
          clear e9 r2 e2
          go_wp2_with fail
          go_ret
          exact ⟨by rw [HR.out]; rfl, q', none, by rw [HR.out]; exact HN.out, HTT.out, HQ.out, RowN.none _ _⟩
end Go.Proofs.Ytjnfdhjnfginpaa
