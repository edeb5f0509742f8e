/- DeltaComes: the law's walk. -/
import Derived.Test.YtcdmbidggikmfaaD7
import Derived.Test.YtcdmbidggikmfaaD10
import Derived.Test.YtcdmbidggikmfaaD8
namespace Go.Proofs.Ytcdmbidggikmfaa
set_option linter.unusedVariables false
set_option linter.unusedSimpArgs false
open Go Go.RowKit BitM

set_option maxRecDepth 100000 in
set_option maxHeartbeats 12800000 in
theorem walk_dcomes (A : Option Addr) (n c : Nat) (l : List Tn) (fr now cu pg : Int) (B : Option Addr) (m d : Nat) (cs : List Cd) (w : World) (h : SeesR tcl w A n c l) (h2 : SeesR ccl w B m d cs) (hokt : ∀ t ∈ l, okT t) (hokc : ∀ y ∈ cs, okC y) (hpI : InI pg) :
    Calls Try.prog 5 #[.slice A n c, .agg #[.int .i64 fr, .int .i64 now, .int .i64 cu, .int .i64 pg], .slice B m d] w fun e w' => e = .returned (.bool true) ∧ Below w.heap.size w w' := by
  have huc := Try.underlying43
  have hokd : ∀ y ∈ cs, okCd y := fun y hy => (hokc y hy).len
  obtain ⟨W0, hW0⟩ : ∃ W0, W0 = w.alloc (.cells #[.int .i64 fr, .int .i64 now, .int .i64 cu, .int .i64 pg] 24) := ⟨_, rfl⟩
  have hb0 : Below w.heap.size w W0 := by rw [hW0]; exact (Below.refl w.heap.size w).alloc (Nat.le_refl _) _
  have B0 : Blk W0 w.heap.size (askc fr now cu pg) := by rw [hW0]; exact Blk.new w (askc fr now cu pg) _
  have HQ := Lib.hid (fun W (hW : Below W0.heap.size W0 W) => ask_later B0 hW)
  have hok : ∀ t ∈ l, okCd t.cd := fun t ht => (hokt t ht).cd.len
  have h0 := h.later hb0
  have k0 := h2.later hb0
  have HLA := Lib.hid (tlarge_any A n c l W0 h0 hok)
  have HAW := Lib.hid dl_awake
  have HB0 := Lib.hid hb0
  have HBR := Lib.hid (Below.refl W0.heap.size W0)
  have HW0 := Lib.hid hW0
  clear hW0 hb0 B0 h h2
  cases hlg : tlarge l with
  | true =>
    rw [hlg] at HLA
    clear hlg h0 hok hokt hokc hokd k0
    go_enter Try.func5, Try.ntmps5
    go_wp2_with fail
    rw [← HW0.out]
    refine (HLA.out).mono ?_
    rintro e w1 ⟨rfl, hb⟩
    have HB1 := Lib.hid (HBR.out.trans (hb.mono HBR.out.size))
    clear hb
    go_wp2_with fail
    refine (HAW.out _).mono ?_
    rintro e w29 ⟨rfl, hb⟩
    have HB29 := Lib.hid (HB0.out.trans ((HB1.out.trans (hb.mono HB1.out.size)).mono HB0.out.size))
    clear hb
    go_wp2_with fail
    go_ret
    exact ⟨rfl, HB29.out⟩
  | false =>
    rw [hlg] at HLA
    have hn100 : n ≤ 100 := by have := tlarge_len hlg; have := h0.len; omega
    have HRG := Lib.hid (fun W (hW : Below W0.heap.size W0 W) => rgoes_any A n c l W (h0.later hW) hok (by omega))
    cases hgo : goes l with
    | false =>
      rw [hgo] at HRG
      clear hlg hgo h0 hok hokt hokc hokd k0
      go_enter Try.func5, Try.ntmps5
      go_wp2_with fail
      rw [← HW0.out]
      refine (HLA.out).mono ?_
      rintro e w1 ⟨rfl, hb⟩
      have HB1 := Lib.hid (HBR.out.trans (hb.mono HBR.out.size))
      clear hb
      go_wp2_with fail
      refine (HRG.out _ HB1.out).mono ?_
      rintro e w2 ⟨rfl, hb⟩
      have HB2 := Lib.hid (HB1.out.trans (hb.mono HB1.out.size))
      clear hb
      go_wp2_with fail
      refine (HAW.out _).mono ?_
      rintro e w29 ⟨rfl, hb⟩
      have HB29 := Lib.hid (HB0.out.trans ((HB2.out.trans (hb.mono HB2.out.size)).mono HB0.out.size))
      clear hb
      go_wp2_with fail
      go_ret
      exact ⟨rfl, HB29.out⟩
    | true =>
      rw [hgo] at HRG
      by_cases hfn : now < fr
      · have e0 : decide (now < fr) = true := decide_eq_true hfn
        clear hlg hgo h0 hok hokt hfn hokc hokd k0
        go_enter Try.func5, Try.ntmps5
        go_wp2_with fail
        rw [← HW0.out]
        refine (HLA.out).mono ?_
        rintro e w1 ⟨rfl, hb⟩
        have HB1 := Lib.hid (HBR.out.trans (hb.mono HBR.out.size))
        clear hb
        go_wp2_with fail
        refine (HRG.out _ HB1.out).mono ?_
        rintro e w2 ⟨rfl, hb⟩
        have HB2 := Lib.hid (HB1.out.trans (hb.mono HB1.out.size))
        clear hb
        obtain ⟨q0, q1, q2, q3⟩ := HQ.out _ HB2.out
        go_wp2_with fail
        refine (HAW.out _).mono ?_
        rintro e w29 ⟨rfl, hb⟩
        have HB29 := Lib.hid (HB0.out.trans ((HB2.out.trans (hb.mono HB2.out.size)).mono HB0.out.size))
        clear hb
        go_wp2_with fail
        go_ret
        exact ⟨rfl, HB29.out⟩
      · have e0 : decide (now < fr) = false := decide_eq_false hfn
        have hfr : fr ≤ now := by omega
        by_cases hp1 : pg < 1
        · have e1 : decide (pg < 1) = true := decide_eq_true hp1
          clear hlg hgo h0 hok hokt hfn hokc hokd k0 hfr hp1
          go_enter Try.func5, Try.ntmps5
          go_wp2_with fail
          rw [← HW0.out]
          refine (HLA.out).mono ?_
          rintro e w1 ⟨rfl, hb⟩
          have HB1 := Lib.hid (HBR.out.trans (hb.mono HBR.out.size))
          clear hb
          go_wp2_with fail
          refine (HRG.out _ HB1.out).mono ?_
          rintro e w2 ⟨rfl, hb⟩
          have HB2 := Lib.hid (HB1.out.trans (hb.mono HB1.out.size))
          clear hb
          obtain ⟨q0, q1, q2, q3⟩ := HQ.out _ HB2.out
          go_wp2_with fail
          refine (HAW.out _).mono ?_
          rintro e w29 ⟨rfl, hb⟩
          have HB29 := Lib.hid (HB0.out.trans ((HB2.out.trans (hb.mono HB2.out.size)).mono HB0.out.size))
          clear hb
          go_wp2_with fail
          go_ret
          exact ⟨rfl, HB29.out⟩
        · have e1 : decide (pg < 1) = false := decide_eq_false hp1
          by_cases hm60 : 60 < m
          · have e2 : decide (60 < (m : Int)) = true := decide_eq_true (by omega)
            have e2' : decide (60 < m) = true := decide_eq_true hm60
            clear hlg hgo h0 hok hokt hfn hokc hokd k0 hfr hp1 hm60
            go_enter Try.func5, Try.ntmps5
            go_wp2_with fail
            rw [← HW0.out]
            refine (HLA.out).mono ?_
            rintro e w1 ⟨rfl, hb⟩
            have HB1 := Lib.hid (HBR.out.trans (hb.mono HBR.out.size))
            clear hb
            go_wp2_with fail
            refine (HRG.out _ HB1.out).mono ?_
            rintro e w2 ⟨rfl, hb⟩
            have HB2 := Lib.hid (HB1.out.trans (hb.mono HB1.out.size))
            clear hb
            obtain ⟨q0, q1, q2, q3⟩ := HQ.out _ HB2.out
            go_wp2_with fail
            refine (HAW.out _).mono ?_
            rintro e w29 ⟨rfl, hb⟩
            have HB29 := Lib.hid (HB0.out.trans ((HB2.out.trans (hb.mono HB2.out.size)).mono HB0.out.size))
            clear hb
            go_wp2_with fail
            go_ret
            exact ⟨rfl, HB29.out⟩
          · have e2 : decide (60 < (m : Int)) = false := decide_eq_false (by omega)
            have e2' : decide (60 < m) = false := decide_eq_false hm60
            have hmm : m ≤ 60 := by omega
            obtain ⟨P, hP1, hPp⟩ : ∃ P : Nat, 1 ≤ P ∧ pg = (P : Int) := ⟨pg.toNat, by omega, by omega⟩
            have hPN : pgN pg = P := by unfold pgN; omega
            have HPP := Lib.hid hPp
            have HGO := Lib.hid hgo
            have HFR := Lib.hid hfr
            have HM := Lib.hid k0.len
            obtain ⟨U, hU⟩ : ∃ U, U = upl l fr now cu := ⟨_, rfl⟩
            have hUl : U.length ≤ 100 := by rw [hU]; have := upl_len l fr now cu; have := h0.len; omega
            have hokU : ∀ t ∈ U, okT t := fun t ht => hokt t (by rw [hU] at ht; exact (upl_mem.1 ht).1)
            have hokTU : ∀ t ∈ U, okTn t := fun t ht => (goes_okT2 hgo t (by rw [hU] at ht; exact (upl_mem.1 ht).1)).ok
            have HUP := Lib.hid (fun W (hW : Below W0.heap.size W0 W) => rup_any A n c l fr now cu W (h0.later hW) hok (by omega))
            rw [← hU] at HUP
            have HRN := Lib.hid (fun W B c1 (k : SeesR tcl W B U.length c1 U) => show Calls Try.prog 14 #[.slice B U.length c1] W (GivesS W (net U)) from by
              have := rnets_any B _ c1 _ W k (fun t ht => (hokU t ht).cd.len) (by omega)
              rwa [rnet_net hokTU] at this)
            have hNUl : (net U).length ≤ 100 := by have := net_len U; omega
            have hNUo : ∀ x ∈ net U, okCd x.cd := net_ok (fun t ht => (hokU t ht).cd.len)
            have HAP := Lib.hid (fun W (hW : Below W0.heap.size W0 W) B' c' (hs : SeesR icl W B' (net U).length c' (net U)) => rapply_any B m d cs B' (net U).length c' (net U) W (k0.later hW) hokd hs hNUo (by omega))
            have HFT := Lib.hid (fun (hr : CRise cs) W (hW : Below W0.heap.size W0 W) B' c' (hs : SeesR tcl W B' U.length c' U) => fits_any B m d cs B' U.length c' U W (k0.later hW) hokd hr hs (fun t ht => (hokU t ht).cd.len) (by omega) (by omega))
            have HSOME := Lib.hid (fun (hr : CRise cs) (hc : ∀ x ∈ cs, ckc x = true) (hf : ∀ i (hi : i < U.length), FitAt cs U i hi) => comes_some (l := l) (now := now) (c := cu) (a := fr) hgo hr hc (by rw [← hU]; exact fits_of hf) hfr)
            have HSTEP := Lib.hid (fun (hr : CRise cs) (hc : ∀ x ∈ cs, ckc x = true) (hf : ∀ i (hi : i < U.length), FitAt cs U i hi) i at' hv (k : CutAt l cs (upl l fr now cu) P now cu i at' hv) => comes_step hgo hr hc (by rw [← hU]; exact fits_of hf) k)
            have HIN := Lib.hid (fun i at' hv (k : CutAt l cs U P now cu i at' hv) => comes_in hokc hokU k)
            have HEND := Lib.hid (fun (hr : CRise cs) at' hv (k : CutAt l cs U P now cu (U.length / P + 1) at' hv) => comes_ends hr hP1 k)
            have HST0 : Hid (CutAt l cs U P now cu 0 fr cs) := Lib.hid (by rw [hU]; exact CutAt.start hfr)
            rw [← hU] at HSOME HSTEP
            have HDC := Lib.hid (fun (at' : Int) (hat : at' ≤ now) W (hW : Below W0.heap.size W0 W) => by
              have := dcut_any A n c l at' now cu pg W (h0.later hW) hok hgo hat (by omega)
              rwa [hPN] at this)
            have HCL100 := Lib.hid (fun at' : Int => show (net (cutL l at' now cu P)).length ≤ 100 from by
              have h1 := net_len (cutL l at' now cu P)
              have h2 : (cutL l at' now cu P).length ≤ (upl l at' now cu).length := by unfold cutL; rw [List.length_take]; omega
              have h3 := upl_len l at' now cu
              have h4 := h0.len
              omega)
            have HCLo := Lib.hid (fun at' : Int => show ∀ x ∈ net (cutL l at' now cu P), okCd x.cd from net_ok (fun t ht => hok t ((upl_mem.1 (List.mem_of_mem_take ht)).1)))
            have HCK := Lib.hid (fun t (ht : t < cs.length) wx => rccheck_any cs[t].1 cs[t].2.1 cs[t].2.2.1 cs[t].2.2.2 wx (hokd _ (List.getElem_mem ht)))
            have HCL := Lib.hid (fun t (ht : t < cs.length) => ccl_len (hokd _ (List.getElem_mem ht)))
            have HST := Lib.hid (fun t (ht : t < cs.length) => crise_step (cs := cs) ht)
            have HCE : Hid (∀ k (hk : k < cs.length), ∃ b o, B = some ⟨b, o, none⟩ ∧ ∀ W, Below W0.heap.size W0 W → ∀ k (hk : k < cs.length), W.cell? ⟨b, o + k * 27, none⟩ = some (.int .i64 cs[k].1) ∧ W.rangeAt b (o + k * 27) (ccl cs[k])) := Lib.hid (fun k hk => by
              obtain ⟨b, o, e, _, hc⟩ := card_cells k0 hokd (by omega)
              exact ⟨b, o, e, fun W hW k hk => ⟨(hc W hW k hk).1, (hc W hW k hk).2.2.1⟩⟩)
            have HKD := Lib.hid (fun W (hW : Below W0.heap.size W0 W) => k0.later hW)
            have hUQ : U.length / P ≤ 100 := Nat.le_trans (Nat.div_le_self _ _) hUl
            have HULP := Lib.hid (show 1 ≤ P ∧ U.length ≤ 100 from ⟨hP1, hUl⟩)
            have HNUL := Lib.hid (show (net U).length ≤ 100 from hNUl)
            clear hlg hgo h0 hok hokt hfn hokc k0 hfr hp1 hm60 hU hUl hokU hokTU hNUl hNUo hPN hPp hP1
            go_enter Try.func5, Try.ntmps5
            go_wp2_with fail
            rw [← HW0.out]
            refine (HLA.out).mono ?_
            rintro e w1 ⟨rfl, hb⟩
            have HB1 := Lib.hid (HBR.out.trans (hb.mono HBR.out.size))
            clear hb
            go_wp2_with fail
            refine (HRG.out _ HB1.out).mono ?_
            rintro e w2 ⟨rfl, hb⟩
            have HB2 := Lib.hid (HB1.out.trans (hb.mono HB1.out.size))
            clear hb
            obtain ⟨q0, q1, q2, q3⟩ := HQ.out _ HB2.out
            clear HLA HRG HB1
            go_wp2_with fail
            clear q0 q1 q2 q3
            go_loopw [7] (fun i wr => ∃ t : Nat, t ≤ m ∧ i = .int .i64 (t : Int) ∧ Hid (CRise (cs.take t)) ∧ Hid (∀ j (hj : j < t) (hj2 : j < cs.length), ckc cs[j] = true) ∧ Hid (Below W0.heap.size W0 wr)) (fun i _ => m - (iOf i).toNat)
            case atStart => exact ⟨0, by omega, rfl, Lib.hid List.Pairwise.nil, Lib.hid (fun j hj => by omega), HB2⟩
            case round =>
              clear HB2
              obtain ⟨t, ht, rfl, HR, HQQ, HB⟩ := hrel
              by_cases hlt : t < m
              · have d0 : decide ((t : Int) < (m : Int)) = true := decide_eq_true (by omega)
                have htl : t < cs.length := by rw [HM.out]; exact hlt
                obtain ⟨b, o, rfl, hcc⟩ := HCE.out t htl
                have HBW : Hid (∀ W, Le wr W → Below W0.heap.size W0 W) := Lib.hid (fun W hl => HB.out.trans (hl.mono HB.out.size))
                have HNX := Lib.hid (HST.out t htl HR.out)
                have HTL := Lib.hid (HCL.out t htl)
                have HQN : Hid (ckc cs[t] = true → ∀ j (hj : j < t + 1) (hj2 : j < cs.length), ckc cs[j] = true) := Lib.hid (fun e j hj hj2 => by
                  by_cases e2 : j = t
                  · subst e2; exact e
                  · exact HQQ.out j (by omega) hj2)
                have HRGE : Hid (∀ W, Below W0.heap.size W0 W → W.rangeAt b (o + t * 27) (ccl cs[t])) := Lib.hid (fun W hW => (hcc W hW t htl).2)
                obtain ⟨CC, hCC⟩ : ∃ CC, CC = ccl cs[t] := ⟨_, rfl⟩
                have HC' : Hid (∀ wx, Calls Try.prog 15 #[.agg CC.toArray] wx fun e w' => e = .returned (.bool (ckc cs[t])) ∧ Below wx.heap.size wx w') := Lib.hid (fun wx => by rw [hCC]; exact HCK.out t htl wx)
                rw [← hCC] at HTL HRGE
                have HPREV : Hid (∀ p (hp : t = p + 1), ∀ W, Below W0.heap.size W0 W → W.cell? ⟨b, o + p * 27, none⟩ = some (.int .i64 (cs[p]'(by omega)).1)) := Lib.hid (fun p hp W hW => (hcc W hW p (by omega)).1)
                have HCX : Hid (∀ W, Le wr W → W.cell? ⟨b, o + t * 27, none⟩ = some (.int .i64 cs[t].1)) := Lib.hid (fun W hl => (hcc W (HBW.out W hl) t htl).1)
                have cx : ∀ kk : LW wr, kk.val.cell? ⟨b, o + t * 27, none⟩ = some (.int .i64 cs[t].1) := fun kk => HCX.out _ kk.le
                generalize ckc cs[t] = ck at HC' HQN
                generalize cs[t].1 = x at HNX HCX cx
                clear hcc hCC HST HCK HCL HCE HR HQQ HCX HUP HRN HAP HFT HSOME HSTEP HIN HEND HST0 HDC HCL100 HCLo HKD
                cases ck with
                | false =>
                  go_wp2_with fail
                  refine wp_region_steady [] 151 (by kernel_rfl) (by kernel_rfl) (by kernel_rfl) (by rfl) ?_
                  iterate 3 (refine wpG_quiet (by rfl) (by rfl) (by rfl) (fun K hK => ?_); go_big_quiet_op; refine hK _ ?_; clear hK K)
                  refine wpG_run (by rfl) (by rfl) (.agg CC.toArray) (fun wx hl => exec_load 43 (.tmp 52) rfl b (o + t * 27) rfl CC _ (HRGE.out wx (HBW.out wx hl.1)) huc rfl (by rw [HTL.out]; exact info_card)) ?_
                  simp only [Act.put, List.setIfInBounds_toArray, List.set_cons_zero, List.set_cons_succ]
                  refine wpG_call (by rfl) (by rfl) 15 #[.agg CC.toArray] (.bool false) (by intro _; simp [go_sem]) (by kernel_rfl) (fun wx hl => HC'.out wx) ?_
                  simp only [Act.put, List.setIfInBounds_toArray, List.set_cons_zero, List.set_cons_succ]
                  iterate 2 (refine wpG_quiet (by rfl) (by rfl) (by rfl) (fun K hK => ?_); go_big_quiet_op; refine hK _ ?_; clear hK K)
                  iterate 16 (refine wpG_skip (by rfl) ?_; simp only [Act.put, List.setIfInBounds_toArray, List.set_cons_zero, List.set_cons_succ])
                  iterate 1 (refine wpG_quiet (by rfl) (by rfl) (by rfl) (fun K hK => ?_); go_big_quiet_op; refine hK _ ?_; clear hK K)
                  refine wpG_nil fun w3 hl _ => ?_
                  have HB3 := Lib.hid (HBW.out w3 hl)
                  clear HBW hl
                  go_wp2_with fail
                  refine (HAW.out _).mono ?_
                  rintro e w29 ⟨rfl, hb⟩
                  have HB29 := Lib.hid (HB0.out.trans ((HB3.out.trans (hb.mono HB3.out.size)).mono HB0.out.size))
                  clear hb
                  go_wp2_with fail
                  go_ret
                  exact ⟨rfl, HB29.out⟩
                | true =>
                  have HQ2 := Lib.hid (HQN.out (by trivial))
                  by_cases h0 : t = 0
                  · have d1 : decide ((0 : Int) < (t : Int)) = false := decide_eq_false (by omega)
                    have d1' : decide (0 < t) = false := decide_eq_false (by omega)
                    have HG := Lib.hid (HNX.out (fun m hm => absurd hm (by omega)))
                    clear h0
                    go_wp2_with fail
                    refine wp_region_steady [] 151 (by kernel_rfl) (by kernel_rfl) (by kernel_rfl) (by rfl) ?_
                    iterate 3 (refine wpG_quiet (by rfl) (by rfl) (by rfl) (fun K hK => ?_); go_big_quiet_op; refine hK _ ?_; clear hK K)
                    refine wpG_run (by rfl) (by rfl) (.agg CC.toArray) (fun wx hl => exec_load 43 (.tmp 52) rfl b (o + t * 27) rfl CC _ (HRGE.out wx (HBW.out wx hl.1)) huc rfl (by rw [HTL.out]; exact info_card)) ?_
                    simp only [Act.put, List.setIfInBounds_toArray, List.set_cons_zero, List.set_cons_succ]
                    refine wpG_call (by rfl) (by rfl) 15 #[.agg CC.toArray] (.bool true) (by intro _; simp [go_sem]) (by kernel_rfl) (fun wx hl => HC'.out wx) ?_
                    simp only [Act.put, List.setIfInBounds_toArray, List.set_cons_zero, List.set_cons_succ]
                    iterate 5 (refine wpG_quiet (by rfl) (by rfl) (by rfl) (fun K hK => ?_); go_big_quiet_op; refine hK _ ?_; clear hK K)
                    iterate 12 (refine wpG_skip (by rfl) ?_; simp only [Act.put, List.setIfInBounds_toArray, List.set_cons_zero, List.set_cons_succ])
                    iterate 2 (refine wpG_quiet (by rfl) (by rfl) (by rfl) (fun K hK => ?_); go_big_quiet_op; refine hK _ ?_; clear hK K)
                    refine wpG_nil fun w3 hl _ => ?_
                    have HB3 := Lib.hid (HBW.out w3 hl)
                    clear HBW hl
                    go_wp2_with fail
                    go_roundw
                    case rel => exact ⟨t + 1, by omega, by go_num, HG, HQ2, HB3⟩
                    case measure => simp [iOf]; omega
                  · obtain ⟨p, hp⟩ : ∃ p, t = p + 1 := ⟨t - 1, by omega⟩
                    have d1 : decide ((0 : Int) < (t : Int)) = true := decide_eq_true (by omega)
                    have d1' : decide (0 < t) = true := decide_eq_true (by omega)
                    obtain ⟨y, hy⟩ : ∃ y, y = (cs[p]'(by omega)).1 := ⟨_, rfl⟩
                    have cp : ∀ kk : LW wr, kk.val.cell? ⟨b, o + p * 27, none⟩ = some (.int .i64 y) := fun kk => by rw [hy]; exact HPREV.out p hp _ (HBW.out _ kk.le)
                    have HG1 : Hid (y < x → CRise (cs.take (t + 1))) := Lib.hid (fun e => HNX.out (fun m hm => by
                      obtain rfl : m = p := by omega
                      rw [← hy]; exact e))
                    have km : (t : Int) - 1 = (p : Int) := by omega
                    have hpn : p < m := by omega
                    clear hp hy h0
                    by_cases h4 : x ≤ y
                    · have d4 : decide (x ≤ y) = true := decide_eq_true h4
                      clear h4
                      go_wp2_with fail
                      refine wp_region_steady [] 151 (by kernel_rfl) (by kernel_rfl) (by kernel_rfl) (by rfl) ?_
                      iterate 3 (refine wpG_quiet (by rfl) (by rfl) (by rfl) (fun K hK => ?_); go_big_quiet_op; refine hK _ ?_; clear hK K)
                      refine wpG_run (by rfl) (by rfl) (.agg CC.toArray) (fun wx hl => exec_load 43 (.tmp 52) rfl b (o + t * 27) rfl CC _ (HRGE.out wx (HBW.out wx hl.1)) huc rfl (by rw [HTL.out]; exact info_card)) ?_
                      simp only [Act.put, List.setIfInBounds_toArray, List.set_cons_zero, List.set_cons_succ]
                      refine wpG_call (by rfl) (by rfl) 15 #[.agg CC.toArray] (.bool true) (by intro _; simp [go_sem]) (by kernel_rfl) (fun wx hl => HC'.out wx) ?_
                      simp only [Act.put, List.setIfInBounds_toArray, List.set_cons_zero, List.set_cons_succ]
                      iterate 19 (refine wpG_quiet (by rfl) (by rfl) (by rfl) (fun K hK => ?_); go_big_quiet_op; refine hK _ ?_; clear hK K)
                      refine wpG_nil fun w3 hl _ => ?_
                      have HB3 := Lib.hid (HBW.out w3 hl)
                      clear HBW hl
                      go_wp2_with fail
                      refine (HAW.out _).mono ?_
                      rintro e w29 ⟨rfl, hb⟩
                      have HB29 := Lib.hid (HB0.out.trans ((HB3.out.trans (hb.mono HB3.out.size)).mono HB0.out.size))
                      clear hb
                      go_wp2_with fail
                      go_ret
                      exact ⟨rfl, HB29.out⟩
                    · have d4 : decide (x ≤ y) = false := decide_eq_false h4
                      have HG := Lib.hid (HG1.out (by omega))
                      clear h4
                      go_wp2_with fail
                      refine wp_region_steady [] 151 (by kernel_rfl) (by kernel_rfl) (by kernel_rfl) (by rfl) ?_
                      iterate 3 (refine wpG_quiet (by rfl) (by rfl) (by rfl) (fun K hK => ?_); go_big_quiet_op; refine hK _ ?_; clear hK K)
                      refine wpG_run (by rfl) (by rfl) (.agg CC.toArray) (fun wx hl => exec_load 43 (.tmp 52) rfl b (o + t * 27) rfl CC _ (HRGE.out wx (HBW.out wx hl.1)) huc rfl (by rw [HTL.out]; exact info_card)) ?_
                      simp only [Act.put, List.setIfInBounds_toArray, List.set_cons_zero, List.set_cons_succ]
                      refine wpG_call (by rfl) (by rfl) 15 #[.agg CC.toArray] (.bool true) (by intro _; simp [go_sem]) (by kernel_rfl) (fun wx hl => HC'.out wx) ?_
                      simp only [Act.put, List.setIfInBounds_toArray, List.set_cons_zero, List.set_cons_succ]
                      iterate 19 (refine wpG_quiet (by rfl) (by rfl) (by rfl) (fun K hK => ?_); go_big_quiet_op; refine hK _ ?_; clear hK K)
                      refine wpG_nil fun w3 hl _ => ?_
                      have HB3 := Lib.hid (HBW.out w3 hl)
                      clear HBW hl
                      go_wp2_with fail
                      go_roundw
                      case rel => exact ⟨t + 1, by omega, by go_num, HG, HQ2, HB3⟩
                      case measure => simp [iOf]; omega
              · obtain rfl : t = m := by omega
                have HRI : Hid (CRise cs) := Lib.hid (by have := HR.out; rwa [List.take_of_length_le (by rw [HM.out]; exact Nat.le_refl _)] at this)
                have HCKA : Hid (∀ c ∈ cs, ckc c = true) := Lib.hid (fun c hc => by
                  obtain ⟨j, hj, rfl⟩ := List.getElem_of_mem hc
                  exact HQQ.out j (by rw [← HM.out]; exact hj) hj)
                have HFT1 := Lib.hid (HFT.out HRI.out)
                have HSOME1 := Lib.hid (HSOME.out HRI.out HCKA.out)
                have HSTEP1 := Lib.hid (HSTEP.out HRI.out HCKA.out)
                have HEND1 := Lib.hid (HEND.out HRI.out)
                obtain ⟨q0, q1, q2, q3⟩ := HQ.out _ HB.out
                clear HST HCK HCL HCE HR HQQ HCKA HFT HSOME HSTEP HEND
                go_wp2_with fail
                refine (HUP.out _ HB.out).mono ?_
                rintro e w3 ⟨A3, c3, rfl, hs, hb⟩
                have HS3 := Lib.hid hs
                have HB3 := Lib.hid (HB.out.trans (hb.mono HB.out.size))
                clear hs hb HUP HB q0 q1 q2 q3
                go_wp2_with fail
                refine (HRN.out _ _ _ HS3.out).mono ?_
                rintro e w4 ⟨A4, c4, rfl, hs, hb⟩
                have HS4 := Lib.hid hs
                have HS3b := Lib.hid (HS3.out.later hb)
                have HB4 := Lib.hid (HB3.out.trans (hb.mono HB3.out.size))
                clear hs hb HRN HS3 HB3
                have HAP1 := Lib.hid (fun W hW hs => HAP.out W hW A4 c4 hs)
                generalize (net U).length = q4 at HS4 HAP1 HNUL ⊢
                clear HAP
                go_wp2_with fail
                cases hp : rapp cs (net U) with
                | none =>
                  rw [hp] at HAP1
                  refine (HAP1.out _ HB4.out HS4.out).mono ?_
                  rintro e w5 ⟨rfl, hb⟩
                  have HB5 := Lib.hid (HB4.out.trans (hb.mono HB4.out.size))
                  have HS3c := Lib.hid (HS3b.out.later hb)
                  have HNO : Hid ((∀ i (hi : i < U.length), FitAt cs U i hi) → False) := Lib.hid (fun hf => by
                    obtain ⟨ds, e⟩ := HSOME1.out hf
                    rw [hp] at e; cases e)
                  clear hb HAP1 HS3b HS4 HSOME1 HSTEP1 HEND1 HIN HDC HCL100 HCLo hp HST0 HKD
                  go_wp2_with fail
                  refine (HFT1.out _ HB5.out _ _ HS3c.out).mono ?_
                  rintro e w6 ⟨R, rfl, hR, hb⟩
                  have HB6 := Lib.hid (HB5.out.trans (hb.mono HB5.out.size))
                  clear hb
                  cases R with
                  | true => exact absurd (hR rfl) HNO.out
                  | false =>
                    clear hR
                    go_wp2_with fail
                    refine (HAW.out _).mono ?_
                    rintro e w29 ⟨rfl, hb⟩
                    have HB29 := Lib.hid (HB0.out.trans ((HB6.out.trans (hb.mono HB6.out.size)).mono HB0.out.size))
                    clear hb
                    go_wp2_with fail
                    go_ret
                    exact ⟨rfl, HB29.out⟩
                | some ds =>
                  rw [hp] at HAP1
                  refine (HAP1.out _ HB4.out HS4.out).mono ?_
                  rintro e w5 ⟨A5, m5, c5, rfl, hs, hb⟩
                  have HS5 := Lib.hid hs
                  have HB5 := Lib.hid (HB4.out.trans (hb.mono HB4.out.size))
                  have HS3c := Lib.hid (HS3b.out.later hb)
                  have HDS := Lib.hid hp
                  clear hs hb HAP1 HS3b HS4 HSOME1 hp
                  go_wp2_with fail
                  refine (HFT1.out _ HB5.out _ _ HS3c.out).mono ?_
                  rintro e w6 ⟨R, rfl, hR, hb⟩
                  have HB6 := Lib.hid (HB5.out.trans (hb.mono HB5.out.size))
                  have HS5b := Lib.hid (HS5.out.later hb)
                  clear hb HS5 HS3c
                  cases R with
                  | false =>
                    clear hR HSTEP1 HFT1 HEND1 HIN HDC HCL100 HCLo HST0 HDS HKD
                    go_wp2_with fail
                    refine (HAW.out _).mono ?_
                    rintro e w29 ⟨rfl, hb⟩
                    have HB29 := Lib.hid (HB0.out.trans ((HB6.out.trans (hb.mono HB6.out.size)).mono HB0.out.size))
                    clear hb
                    go_wp2_with fail
                    go_ret
                    exact ⟨rfl, HB29.out⟩
                  | true =>
                    have HSTP := Lib.hid (HSTEP1.out (hR rfl))
                    obtain ⟨q0, q1, q2, q3⟩ := HQ.out _ HB6.out
                    rw [HPP.out] at q3
                    clear hR HSTEP1 HFT1
                    generalize hul : U.length = ul at *
                    obtain ⟨Q, hQ⟩ : ∃ Q, Q = ul / P := ⟨_, rfl⟩
                    rw [← hQ] at hUQ HEND1
                    have HQH := Lib.hid hQ
                    clear hQ hul
                    go_wp2_with (first
                      | (refine wpList_exec (by rfl) (.int .i64 (Q : Int)) (by rw [HQH.out]; exact exec_quoP (.tmp 96) (.tmp 98) _ rfl ul P HULP.out.1 HULP.out.2 rfl rfl) ?_
                         simp only [Act.put, List.setIfInBounds_toArray, List.set_cons_zero, List.set_cons_succ])
                      | fail)
                    have HS0 := Lib.hid (HKD.out _ HB6.out)
                    go_loopw [14, 12, 13] (fun i v hv wr => ∃ (k : Nat) (at' : Int) (hvl : List Cd) (A6 : Option Addr) (m6 c6 : Nat), k ≤ Q + 1 ∧ i = .int .i64 (k : Int) ∧ v = .int .i64 at' ∧ hv = .slice A6 m6 c6 ∧ Hid (CutAt l cs U P now cu k at' hvl) ∧ Hid (SeesR ccl wr A6 m6 c6 hvl) ∧ Hid (SeesR ccl wr A5 m5 c5 ds) ∧ Hid (Below W0.heap.size W0 wr)) (fun i _ _ _ => Q + 1 - (iOf i).toNat)
                    case atStart => exact ⟨0, fr, cs, B, t, d, by omega, rfl, rfl, rfl, HST0, HS0, HS5b, HB6⟩
                    case round =>
                      clear HB6 HS5b HS0 HST0 q0 q1 q2 q3
                      obtain ⟨k, at', hvl, A6, m6, c6, hk, rfl, rfl, rfl, HCA, HS6, HS5, HB⟩ := hrel
                      obtain ⟨q0, q1, q2, q3⟩ := HQ.out _ HB.out
                      by_cases hlk : k < Q + 1
                      · have d7 : decide ((k : Int) < (Q : Int) + 1) = true := decide_eq_true (by omega)
                        have d7' : decide (k < Q + 1) = true := decide_eq_true hlk
                        obtain ⟨hv', hst, hle, hnx⟩ := HSTP.out k at' hvl HCA.out
                        have HIN1 := Lib.hid (HIN.out k at' hvl HCA.out)
                        have HD1 := Lib.hid (HDC.out at' HCA.out.le _ HB.out)
                        have HCN := Lib.hid (HCL100.out at')
                        have HCO := Lib.hid (HCLo.out at')
                        have HNX := Lib.hid hnx
                        have HSS := Lib.hid hst
                        clear hst hnx
                        generalize cutTo l at' now cu P = TO at hle HNX HD1
                        generalize net (cutL l at' now cu P) = L at HSS HD1 HCN HCO
                        have d8 : decide (TO < at') = false := decide_eq_false (by omega)
                        clear hle HIN HDC HCL100 HCLo HSTP HEND1 HCA
                        go_wp2_with fail
                        refine (HD1.out).mono ?_
                        rintro e w7 ⟨A7, c7, rfl, hs, hb⟩
                        have HS7 := Lib.hid hs
                        have HB7 := Lib.hid (HB.out.trans (hb.mono HB.out.size))
                        have HS6b := Lib.hid (HS6.out.later hb)
                        have HS5b := Lib.hid (HS5.out.later hb)
                        clear hs hb HS6 HS5 HB HD1 q0 q1 q2 q3
                        have HRA := Lib.hid (rapply_any A6 m6 c6 hvl A7 L.length c7 L w7 HS6b.out HIN1.out.1 HS7.out HCO.out (by have h1 := HIN1.out.2; have h2 := HS6b.out.len; have h3 := HM.out; have h4 := HCN.out; have h5 := HULP.out.2; omega))
                        rw [HSS.out] at HRA
                        generalize L.length = ql at HRA HS7 HCN ⊢
                        go_wp2_with fail
                        refine (HRA.out).mono ?_
                        rintro e w8 ⟨A8, m8, c8, rfl, hs, hb⟩
                        have HS8 := Lib.hid hs
                        have HB8 := Lib.hid (HB7.out.trans (hb.mono HB7.out.size))
                        have HS5c := Lib.hid (HS5b.out.later hb)
                        clear hs hb HS6b HS5b HB7 HRA HS7
                        go_wp2_with fail
                        go_roundw
                        case rel => exact ⟨k + 1, TO, hv', A8, m8, c8, by omega, by go_num, rfl, rfl, HNX, HS8, HS5c, HB8⟩
                        case measure => simp [iOf]; omega
                      · have d7 : decide ((k : Int) < (Q : Int) + 1) = false := decide_eq_false (by omega)
                        have d7' : decide (k < Q + 1) = false := decide_eq_false hlk
                        have hkq : k = Q + 1 := by omega
                        obtain ⟨ha, hb⟩ := HEND1.out at' hvl (by rw [← hkq]; exact HCA.out)
                        rw [HDS.out] at hb
                        obtain rfl : ds = hvl := by cases hb; rfl
                        have HIN1 := Lib.hid (HIN.out k at' ds HCA.out)
                        have d9 : decide (at' = now) = true := decide_eq_true ha
                        have d9' : (at' == now) = true := beq_iff_eq.2 ha
                        have HSC := Lib.hid (rsamec_any A6 A5 m6 c6 m5 c5 ds ds wr HS6.out.len HS5.out.len (by have h1 := HIN1.out.2; have h2 := HS6.out.len; have h3 := HM.out; have h5 := HULP.out.2; omega) (by have h1 := HIN1.out.2; have h2 := HS5.out.len; have h3 := HM.out; have h5 := HULP.out.2; omega) HIN1.out.1 HIN1.out.1 HS6.out.see HS5.out.see)
                        rw [decide_eq_true (rfl : ds = ds)] at HSC
                        clear ha hb HIN HDC HCL100 HCLo HSTP HEND1 HCA HIN1 hkq
                        go_wp2_with fail
                        refine (HSC.out).mono ?_
                        rintro e w7 ⟨rfl, hb⟩
                        have HB7 := Lib.hid (HB.out.trans (hb.mono HB.out.size))
                        clear hb HSC HS6 HS5
                        go_wp2_with fail
                        refine (HAW.out _).mono ?_
                        rintro e w29 ⟨rfl, hb⟩
                        have HB29 := Lib.hid (HB0.out.trans ((HB7.out.trans (hb.mono HB7.out.size)).mono HB0.out.size))
                        clear hb
                        go_wp2_with fail
                        go_ret
                        exact ⟨rfl, HB29.out⟩
end Go.Proofs.Ytcdmbidggikmfaa
