/- TransNets: the law's walk. -/
import Derived.Test.YtepefocpeeihdaaT8
import Derived.Test.YtepefocpeeihdaaT9
import Derived.Test.YtepefocpeeihdaaT3
namespace Go.Proofs.Ytepefocpeeihdaa
set_option linter.unusedVariables false
set_option linter.unusedSimpArgs false
open Go Go.RowKit BitM

theorem run_newt (w : World) : (Instr.alloc 32 true (.tuple #[])).run Try.prog w = .ok (.pointer (some ⟨w.heap.size, 0, none⟩)) (w.alloc (.cells (tcl ⟨0, 0, 0, 0, zcd⟩).toArray 32)) := by kernel_rfl
theorem allocT {ops : Array Oper} {Q : Exit → Act → World → Prop} {i : Nat} {a : Act} {w w' : World} {K : Act → World → Prop} (d : Option Tmp) (o : Oper) (ho : ops[i]? = some o) (hd : o.dst = d) (hop : o.op = .alloc 32) (hw : Region.wanted o (yielded ops a.tmps) = true)
    (v : Value) (hr : (Instr.alloc 32 true (.tuple #[])).run Try.prog w = .ok v w') (h : K (a.put d v) w') : wpOp Try.prog ops Q i K a w := by
  subst hd
  unfold wpOp
  simp only [ho, hw, if_true]
  left
  unfold Oper.wp execOp
  simp only [hop, Sem.run_bind, hr, Result.andThen_ok, Sem.run_pure, Oper.upon]
  exact h
theorem via {α β : Type} {F T : α → β → Prop} {goal : Prop} (h1 : (∀ a b, F a b → T a b) → goal) (h2 : ∀ a b, F a b → T a b) : goal := h1 h2
def ofTn (o : Option Tn) : Tn := o.getD ⟨0, 0, 0, 0, zcd⟩
theorem ofOut_is (o : Option Tn) : ofOut o = .tuple #[.agg (tcl (ofTn o)).toArray, .bool o.isSome] := by cases o <;> rfl
theorem ofT_ok (sq old id : Int) (c : Cd) (is : Bool) (hc : okCd c) : okCd (ofTn (ofT sq old id c is)).cd := by
  unfold ofT ofTn
  cases is <;> (simp only [Bool.false_eq_true, if_false, if_true]; split) <;> first | rfl | exact hc
set_option maxRecDepth 100000 in
set_option maxHeartbeats 6400000 in
theorem walk_tnets (A : Option Addr) (n c : Nat) (l : List Tn) (w : World) (h : SeesR tcl w A n c l) (hok : ∀ t ∈ l, okCd t.cd) :
    Calls Try.prog 3 #[.slice A n c] w fun e w' => e = .returned (.bool true) ∧ Below w.heap.size w w' := by
  have hu := Try.underlying32
  have huc := Try.underlying30
  have HLA := Lib.hid (tlarge_any A n c l w h hok)
  have HAW := Lib.hid tr_awake
  have HN := Lib.hid h.len
  have HB0 := Lib.hid (Below.refl w.heap.size w)
  cases hlg : tlarge l with
  | true =>
    rw [hlg] at HLA
    clear hlg h hok
    go_enter Try.func3, Try.ntmps3
    go_wp2_with fail
    refine HLA.out.mono ?_
    rintro e w1 ⟨rfl, hb1⟩
    go_wp2_with fail
    refine (HAW.out _).mono ?_
    rintro e w2 ⟨rfl, hb2⟩
    go_wp2_with fail
    go_ret
    exact ⟨rfl, hb1.trans (hb2.mono hb1.size)⟩
  | false =>
    rw [hlg] at HLA
    have hn100 : n ≤ 100 := by have := tlarge_len hlg; have := h.len; omega
    have HRG := Lib.hid (fun W (hW : Below w.heap.size w W) => rgoes_any A n c l W (h.later hW) hok (by omega))
    have HG := Lib.hid (fun W (hW : Below w.heap.size w W) => goes_any A n c l W (h.later hW) hok (by omega))
    have HNT := Lib.hid (fun (hg : goes l = true) W (hW : Below w.heap.size w W) => nets_any A n c l W (h.later hW) hok (goes_wf hg) (by omega))
    have HRN := Lib.hid (fun (hg : goes l = true) W (hW : Below w.heap.size w W) => show Calls Try.prog 15 #[.slice A n c] W (GivesS W (net l)) from by
      have := rnets_any A n c l W (h.later hW) hok (by omega)
      rwa [rnet_net (fun t ht => (goes_okT2 hg t ht).ok)] at this)
    have HNO := Lib.hid (net_ok hok)
    have HNL : Hid ((net l).length ≤ 100) := Lib.hid (by have := net_len l; have := h.len; omega)
    have HOF := Lib.hid (fun k (hk : k < l.length) is wx => of23_any l[k].sq l[k].old l[k].id l[k].cd is wx (hok _ (List.getElem_mem hk)))
    have HROF := Lib.hid (fun k (hk : k < l.length) is wx => rof23_any l[k].sq l[k].old l[k].id l[k].cd is wx (hok _ (List.getElem_mem hk)))
    have HOK := Lib.hid (fun k (hk : k < l.length) is => ofT_ok l[k].sq l[k].old l[k].id l[k].cd is (hok _ (List.getElem_mem hk)))
    have HCLN := Lib.hid (fun k (hk : k < l.length) => ccl_len (hok _ (List.getElem_mem hk)))
    have HCE : Hid (∀ k (hk : k < l.length), ∃ b o, A = some ⟨b, o, none⟩ ∧ ∀ W, Below w.heap.size w W → W.cell? ⟨b, o + k * 31, none⟩ = some (.int .i64 l[k].sq) ∧ W.cell? ⟨b, o + k * 31 + 1, none⟩ = some (.int .i64 l[k].id) ∧
        W.cell? ⟨b, o + k * 31 + 2, none⟩ = some (.int .i64 l[k].old) ∧ W.cell? ⟨b, o + k * 31 + 3, none⟩ = some (.int .i64 l[k].nw) ∧ W.rangeAt b (o + k * 31 + 4) (ccl l[k].cd)) := Lib.hid (fun k hk => by
      obtain ⟨b, o, e, _, hc⟩ := turn_cells h hok (by omega)
      exact ⟨b, o, e, fun W hW => ⟨(hc W hW k hk).1, (hc W hW k hk).2.1, (hc W hW k hk).2.2.1, (hc W hW k hk).2.2.2.1, (hc W hW k hk).2.2.2.2.2⟩⟩)
    obtain ⟨Z, hZ⟩ : ∃ Z, Z = tcl ⟨0, 0, 0, 0, zcd⟩ := ⟨_, rfl⟩
    have HZL := Lib.hid (show Z.length = 31 by rw [hZ]; rfl)
    have HZZ : Hid (Z.toArray = #[Value.int .i64 0, .int .i64 0, .int .i64 0, .int .i64 0, .int .i64 0, .int .i64 0, .int .u32 0, .int .i64 0, .int .i64 0, .string { data := #[] }, .int .i64 0, .int .i64 0, .string { data := #[] }, .int .i64 0, .int .i64 0, .string { data := #[] }, .int .i64 0, .int .i64 0, .string { data := #[] }, .int .i64 0, .int .i64 0, .string { data := #[] }, .int .i64 0, .int .i64 0, .string { data := #[] }, .int .i64 0, .int .i64 0, .string { data := #[] }, .int .i64 0, .int .i64 0, .string { data := #[] }]) := Lib.hid (by rw [hZ]; exact zc31)
    have HRUNT : Hid (∀ w : World, (Instr.alloc 32 true (.tuple #[])).run Try.prog w = .ok (.pointer (some ⟨w.heap.size, 0, none⟩)) (w.alloc (.cells Z.toArray 32))) := Lib.hid (fun w => by rw [hZ]; exact run_newt w)
    clear hlg h hok hZ
    go_enter Try.func3, Try.ntmps3
    go_wp2_with fail
    refine HLA.out.mono ?_
    rintro e w1 ⟨rfl, hb1⟩
    have HB1 := Lib.hid hb1
    clear hb1 HLA
    go_wp2_with fail
    go_loopw [3] (fun i wr => ∃ k : Nat, k ≤ n ∧ i = .int .i64 (k : Int) ∧ Hid (Below w.heap.size w wr)) (fun i _ => n - (iOf i).toNat)
    case atStart => exact ⟨0, by omega, rfl, HB1⟩
    case round =>
      obtain ⟨k, hk, rfl, HB⟩ := hrel
      by_cases hlt : k < n
      · have d0 : decide ((k : Int) < (n : Int)) = true := decide_eq_true (by omega)
        have hkl : k < l.length := by rw [HN.out]; exact hlt
        obtain ⟨b, o, rfl, hcc⟩ := HCE.out k hkl
        have HCC := Lib.hid hcc
        have HBW : Hid (∀ W, Le wr W → Below w.heap.size w W) := Lib.hid (fun W hl => HB.out.trans (hl.mono HB.out.size))
        have HO1 := Lib.hid (HOF.out k hkl)
        have HO2 := Lib.hid (HROF.out k hkl)
        have HOK1 := Lib.hid (HOK.out k hkl)
        have HCL := Lib.hid (HCLN.out k hkl)
        obtain ⟨CC, hCC⟩ : ∃ CC, CC = ccl l[k].cd := ⟨_, rfl⟩
        rw [← hCC] at HO1 HO2 HCC HCL
        have HRGC : Hid (∀ W, Below w.heap.size w W → W.rangeAt b (o + k * 31 + 4) CC) := Lib.hid (fun W hW => (HCC.out W hW).2.2.2.2)
        clear hcc hCC HG HRG HNT HRN HNO HNL HOF HROF HOK HCLN HCE
        generalize l[k].cd = cd at HO1 HO2 HOK1
        generalize l[k].sq = q at HO1 HO2 HOK1 HCC
        generalize l[k].id = x at HO1 HO2 HOK1 HCC
        generalize l[k].old = y at HO1 HO2 HOK1 HCC
        generalize l[k].nw = z at HCC
        have hnk : ¬ n ≤ k := by omega
        by_cases hz : 0 < z
        · have dz : decide (0 < z) = true := decide_eq_true hz
          clear hz
          have HOT := Lib.hid (HOK1.out true)
          have HP1 : Hid (∀ wx, Calls Try.prog 9 #[.int .i64 q, .int .i64 y, .int .i64 x, .agg CC.toArray, .bool true] wx fun e w' => e = .returned (.tuple #[.agg (tcl (ofTn (ofT q y x cd true))).toArray, .bool (ofT q y x cd true).isSome]) ∧ Below wx.heap.size wx w') := Lib.hid (fun wx => by
            have := HO1.out true wx
            rwa [ofOut_is] at this)
          have HP2 : Hid (∀ wx, Calls Try.prog 10 #[.int .i64 q, .int .i64 y, .int .i64 x, .agg CC.toArray, .bool true] wx fun e w' => e = .returned (.tuple #[.agg (tcl (ofTn (ofT q y x cd true))).toArray, .bool (ofT q y x cd true).isSome]) ∧ Below wx.heap.size wx w') := Lib.hid (fun wx => by
            have := HO2.out true wx
            rwa [ofOut_is] at this)
          have HEQ := Lib.hid (fun wx : World => eq_tcl (ofTn (ofT q y x cd true)) (ofTn (ofT q y x cd true)) HOT.out HOT.out wx)
          have HTL := Lib.hid (tcl_len HOT.out)
          have HT1 := Lib.hid (tcl_one (ofTn (ofT q y x cd true)))
          rw [decide_eq_true rfl] at HEQ
          obtain ⟨TT, hTT⟩ : ∃ TT, TT = tcl (ofTn (ofT q y x cd true)) := ⟨_, rfl⟩
          rw [← hTT] at HP1 HP2 HEQ HTL HT1
          generalize (ofT q y x cd true).isSome = s at HP1 HP2
          clear HO1 HO2 HOK1 HOT hTT
          go_wp2_with fail
          apply via (F := fun (G : Nat) (wz : World) => Blk wz G TT ∧ Below w.heap.size w wz)
          · intro REST
            refine wp_region_held (S := fun wz => wz.cell? ⟨b, o + k * 31, none⟩ = some (.int .i64 q) ∧ wz.cell? ⟨b, o + k * 31 + 1, none⟩ = some (.int .i64 x) ∧ wz.cell? ⟨b, o + k * 31 + 2, none⟩ = some (.int .i64 y) ∧ wz.cell? ⟨b, o + k * 31 + 3, none⟩ = some (.int .i64 z) ∧ wz.rangeAt b (o + k * 31 + 4) CC) (by kernel_rfl) ?_
            show Go.wpAnyH Try.prog Region.Mode.any _ _ _ _ _ _ wr.drew
            have hbe := HB.out.drew
            have hS := HCC.out _ hbe
            generalize wr.drew = wd at hbe hS  ⊢
            refine takeH (i := 0) (oi := _) (v := (.slice (some ⟨b, o, none⟩) n c)) (fuel := 32) (some 18) rfl rfl (by kernel_rfl) (by kernel_rfl) (by kernel_rfl) (fun _ _ _ h => h) (.inl ⟨by rfl, fun wz hS => by simp [go_sem]⟩) hS ?_
            simp only [Act.put, List.setIfInBounds_toArray, List.set_cons_zero, List.set_cons_succ]
            refine takeH (i := 1) (oi := _) (v := (.int .i64 (k : Int))) (fuel := 31) (some 19) rfl rfl (by kernel_rfl) (by kernel_rfl) (by kernel_rfl) (fun _ _ _ h => h) (.inl ⟨by rfl, fun wz hS => by simp [go_sem]⟩) hS ?_
            simp only [Act.put, List.setIfInBounds_toArray, List.set_cons_zero, List.set_cons_succ]
            refine takeH (i := 2) (oi := _) (v := (.pointer (some ⟨b, o + k * 31, none⟩))) (fuel := 30) (some 20) rfl rfl (by kernel_rfl) (by kernel_rfl) (by kernel_rfl) (fun _ _ _ h => h) (.inl ⟨by rfl, fun wz hS => by simp [go_sem, hnk]⟩) hS ?_
            simp only [Act.put, List.setIfInBounds_toArray, List.set_cons_zero, List.set_cons_succ]
            refine takeH (i := 3) (oi := _) (v := (.pointer (some ⟨b, o + k * 31, none⟩))) (fuel := 29) (some 21) rfl rfl (by kernel_rfl) (by kernel_rfl) (by kernel_rfl) (fun _ _ _ h => h) (.inl ⟨by rfl, fun wz hS => by simp [go_sem]⟩) hS ?_
            simp only [Act.put, List.setIfInBounds_toArray, List.set_cons_zero, List.set_cons_succ]
            refine takeH (i := 4) (oi := _) (v := (.int .i64 q)) (fuel := 28) (some 22) rfl rfl (by kernel_rfl) (by kernel_rfl) (by kernel_rfl) (fun _ _ _ h => h) (.inl ⟨by rfl, fun wz hS => by simp [go_sem, hS.1]⟩) hS ?_
            simp only [Act.put, List.setIfInBounds_toArray, List.set_cons_zero, List.set_cons_succ]
            refine takeH (i := 5) (oi := _) (v := (.slice (some ⟨b, o, none⟩) n c)) (fuel := 27) (some 23) rfl rfl (by kernel_rfl) (by kernel_rfl) (by kernel_rfl) (fun _ _ _ h => h) (.inl ⟨by rfl, fun wz hS => by simp [go_sem]⟩) hS ?_
            simp only [Act.put, List.setIfInBounds_toArray, List.set_cons_zero, List.set_cons_succ]
            refine takeH (i := 6) (oi := _) (v := (.int .i64 (k : Int))) (fuel := 26) (some 24) rfl rfl (by kernel_rfl) (by kernel_rfl) (by kernel_rfl) (fun _ _ _ h => h) (.inl ⟨by rfl, fun wz hS => by simp [go_sem]⟩) hS ?_
            simp only [Act.put, List.setIfInBounds_toArray, List.set_cons_zero, List.set_cons_succ]
            refine takeH (i := 7) (oi := _) (v := (.pointer (some ⟨b, o + k * 31, none⟩))) (fuel := 25) (some 25) rfl rfl (by kernel_rfl) (by kernel_rfl) (by kernel_rfl) (fun _ _ _ h => h) (.inl ⟨by rfl, fun wz hS => by simp [go_sem, hnk]⟩) hS ?_
            simp only [Act.put, List.setIfInBounds_toArray, List.set_cons_zero, List.set_cons_succ]
            refine takeH (i := 8) (oi := _) (v := (.pointer (some ⟨b, o + k * 31 + 2, none⟩))) (fuel := 24) (some 26) rfl rfl (by kernel_rfl) (by kernel_rfl) (by kernel_rfl) (fun _ _ _ h => h) (.inl ⟨by rfl, fun wz hS => by simp [go_sem]⟩) hS ?_
            simp only [Act.put, List.setIfInBounds_toArray, List.set_cons_zero, List.set_cons_succ]
            refine takeH (i := 9) (oi := _) (v := (.int .i64 y)) (fuel := 23) (some 27) rfl rfl (by kernel_rfl) (by kernel_rfl) (by kernel_rfl) (fun _ _ _ h => h) (.inl ⟨by rfl, fun wz hS => by simp [go_sem, hS.2.2.1]⟩) hS ?_
            simp only [Act.put, List.setIfInBounds_toArray, List.set_cons_zero, List.set_cons_succ]
            refine takeH (i := 10) (oi := _) (v := (.slice (some ⟨b, o, none⟩) n c)) (fuel := 22) (some 28) rfl rfl (by kernel_rfl) (by kernel_rfl) (by kernel_rfl) (fun _ _ _ h => h) (.inl ⟨by rfl, fun wz hS => by simp [go_sem]⟩) hS ?_
            simp only [Act.put, List.setIfInBounds_toArray, List.set_cons_zero, List.set_cons_succ]
            refine takeH (i := 11) (oi := _) (v := (.int .i64 (k : Int))) (fuel := 21) (some 29) rfl rfl (by kernel_rfl) (by kernel_rfl) (by kernel_rfl) (fun _ _ _ h => h) (.inl ⟨by rfl, fun wz hS => by simp [go_sem]⟩) hS ?_
            simp only [Act.put, List.setIfInBounds_toArray, List.set_cons_zero, List.set_cons_succ]
            refine takeH (i := 12) (oi := _) (v := (.pointer (some ⟨b, o + k * 31, none⟩))) (fuel := 20) (some 30) rfl rfl (by kernel_rfl) (by kernel_rfl) (by kernel_rfl) (fun _ _ _ h => h) (.inl ⟨by rfl, fun wz hS => by simp [go_sem, hnk]⟩) hS ?_
            simp only [Act.put, List.setIfInBounds_toArray, List.set_cons_zero, List.set_cons_succ]
            refine takeH (i := 13) (oi := _) (v := (.pointer (some ⟨b, o + k * 31 + 1, none⟩))) (fuel := 19) (some 31) rfl rfl (by kernel_rfl) (by kernel_rfl) (by kernel_rfl) (fun _ _ _ h => h) (.inl ⟨by rfl, fun wz hS => by simp [go_sem]⟩) hS ?_
            simp only [Act.put, List.setIfInBounds_toArray, List.set_cons_zero, List.set_cons_succ]
            refine takeH (i := 14) (oi := _) (v := (.int .i64 x)) (fuel := 18) (some 32) rfl rfl (by kernel_rfl) (by kernel_rfl) (by kernel_rfl) (fun _ _ _ h => h) (.inl ⟨by rfl, fun wz hS => by simp [go_sem, hS.2.1]⟩) hS ?_
            simp only [Act.put, List.setIfInBounds_toArray, List.set_cons_zero, List.set_cons_succ]
            refine takeH (i := 15) (oi := _) (v := (.slice (some ⟨b, o, none⟩) n c)) (fuel := 17) (some 33) rfl rfl (by kernel_rfl) (by kernel_rfl) (by kernel_rfl) (fun _ _ _ h => h) (.inl ⟨by rfl, fun wz hS => by simp [go_sem]⟩) hS ?_
            simp only [Act.put, List.setIfInBounds_toArray, List.set_cons_zero, List.set_cons_succ]
            refine takeH (i := 16) (oi := _) (v := (.int .i64 (k : Int))) (fuel := 16) (some 34) rfl rfl (by kernel_rfl) (by kernel_rfl) (by kernel_rfl) (fun _ _ _ h => h) (.inl ⟨by rfl, fun wz hS => by simp [go_sem]⟩) hS ?_
            simp only [Act.put, List.setIfInBounds_toArray, List.set_cons_zero, List.set_cons_succ]
            refine takeH (i := 17) (oi := _) (v := (.pointer (some ⟨b, o + k * 31, none⟩))) (fuel := 15) (some 35) rfl rfl (by kernel_rfl) (by kernel_rfl) (by kernel_rfl) (fun _ _ _ h => h) (.inl ⟨by rfl, fun wz hS => by simp [go_sem, hnk]⟩) hS ?_
            simp only [Act.put, List.setIfInBounds_toArray, List.set_cons_zero, List.set_cons_succ]
            refine takeH (i := 18) (oi := _) (v := (.pointer (some ⟨b, o + k * 31 + 4, none⟩))) (fuel := 14) (some 36) rfl rfl (by kernel_rfl) (by kernel_rfl) (by kernel_rfl) (fun _ _ _ h => h) (.inl ⟨by rfl, fun wz hS => by simp [go_sem]⟩) hS ?_
            simp only [Act.put, List.setIfInBounds_toArray, List.set_cons_zero, List.set_cons_succ]
            refine takeH (i := 19) (oi := _) (v := (.agg CC.toArray)) (fuel := 13) (some 37) rfl rfl (by kernel_rfl) (by kernel_rfl) (by kernel_rfl) (fun _ _ _ h => h) (.inl ⟨by rfl, fun wz hS => exec_load 30 (.tmp 36) rfl b (o + k * 31 + 4) rfl CC _ hS.2.2.2.2 huc rfl (by rw [HCL.out]; exact info_card)⟩) hS ?_
            simp only [Act.put, List.setIfInBounds_toArray, List.set_cons_zero, List.set_cons_succ]
            refine takeH (i := 20) (oi := _) (v := (.slice (some ⟨b, o, none⟩) n c)) (fuel := 12) (some 38) rfl rfl (by kernel_rfl) (by kernel_rfl) (by kernel_rfl) (fun _ _ _ h => h) (.inl ⟨by rfl, fun wz hS => by simp [go_sem]⟩) hS ?_
            simp only [Act.put, List.setIfInBounds_toArray, List.set_cons_zero, List.set_cons_succ]
            refine takeH (i := 21) (oi := _) (v := (.int .i64 (k : Int))) (fuel := 11) (some 39) rfl rfl (by kernel_rfl) (by kernel_rfl) (by kernel_rfl) (fun _ _ _ h => h) (.inl ⟨by rfl, fun wz hS => by simp [go_sem]⟩) hS ?_
            simp only [Act.put, List.setIfInBounds_toArray, List.set_cons_zero, List.set_cons_succ]
            refine takeH (i := 22) (oi := _) (v := (.pointer (some ⟨b, o + k * 31, none⟩))) (fuel := 10) (some 40) rfl rfl (by kernel_rfl) (by kernel_rfl) (by kernel_rfl) (fun _ _ _ h => h) (.inl ⟨by rfl, fun wz hS => by simp [go_sem, hnk]⟩) hS ?_
            simp only [Act.put, List.setIfInBounds_toArray, List.set_cons_zero, List.set_cons_succ]
            refine takeH (i := 23) (oi := _) (v := (.pointer (some ⟨b, o + k * 31 + 3, none⟩))) (fuel := 9) (some 41) rfl rfl (by kernel_rfl) (by kernel_rfl) (by kernel_rfl) (fun _ _ _ h => h) (.inl ⟨by rfl, fun wz hS => by simp [go_sem]⟩) hS ?_
            simp only [Act.put, List.setIfInBounds_toArray, List.set_cons_zero, List.set_cons_succ]
            refine takeH (i := 24) (oi := _) (v := (.int .i64 z)) (fuel := 8) (some 42) rfl rfl (by kernel_rfl) (by kernel_rfl) (by kernel_rfl) (fun _ _ _ h => h) (.inl ⟨by rfl, fun wz hS => by simp [go_sem, hS.2.2.2.1]⟩) hS ?_
            simp only [Act.put, List.setIfInBounds_toArray, List.set_cons_zero, List.set_cons_succ]
            refine takeH (i := 25) (oi := _) (v := (.bool true)) (fuel := 7) (some 43) rfl rfl (by kernel_rfl) (by kernel_rfl) (by kernel_rfl) (fun _ _ _ h => h) (.inl ⟨by rfl, fun wz hS => by simp [go_sem, dz]⟩) hS ?_
            simp only [Act.put, List.setIfInBounds_toArray, List.set_cons_zero, List.set_cons_succ]
            refine wpAnyH_all (fuel := 6) (rs := [26, 30]) (by kernel_rfl) (by simp) (fun i hi => ?_)
            simp only [List.mem_cons, List.not_mem_nil, or_false] at hi
            rcases hi with rfl | rfl
            · refine callH (some 44) _ rfl rfl 9 #[.int .i64 q, .int .i64 y, .int .i64 x, .agg CC.toArray, .bool true] (by simp [go_sem]) (by rfl) ((HP1.out _).mono ?_)
              rintro e w5 ⟨rfl, hb⟩
              replace hbe := hbe.trans (hb.mono hbe.size)
              clear hb hS
              have hS := HCC.out _ hbe
              refine ⟨_, rfl, hS, ?_⟩
              simp only [Act.put, List.setIfInBounds_toArray, List.set_cons_zero, List.set_cons_succ]
              refine takeH (i := 27) (oi := _) (v := (.tuple #[.agg TT.toArray, .bool s])) (fuel := 5) (some 17) rfl rfl (by kernel_rfl) (by kernel_rfl) (by kernel_rfl) (fun _ _ _ h => h) (.inl ⟨by rfl, fun wz hS => by simp [go_sem]⟩) hS ?_
              simp only [Act.put, List.setIfInBounds_toArray, List.set_cons_zero, List.set_cons_succ]
              refine takeH (i := 28) (oi := _) (v := (.agg TT.toArray)) (fuel := 4) (some 45) rfl rfl (by kernel_rfl) (by kernel_rfl) (by kernel_rfl) (fun _ _ _ h => h) (.inl ⟨by rfl, fun wz hS => by simp [go_sem]⟩) hS ?_
              simp only [Act.put, List.setIfInBounds_toArray, List.set_cons_zero, List.set_cons_succ]
              refine takeH (i := 29) (oi := _) (v := (.bool s)) (fuel := 3) (some 46) rfl rfl (by kernel_rfl) (by kernel_rfl) (by kernel_rfl) (fun _ _ _ h => h) (.inl ⟨by rfl, fun wz hS => by simp [go_sem]⟩) hS ?_
              simp only [Act.put, List.setIfInBounds_toArray, List.set_cons_zero, List.set_cons_succ]
              refine allH [30] 30 (fuel := 2) (by kernel_rfl) ?_
              refine allocT (some 4) _ rfl rfl rfl (by rfl) _ (HRUNT.out _) ?_
              have hb := (Below.refl _ w5).alloc (Nat.le_refl w5.heap.size) (.cells Z.toArray 32)
              have hz := Blk.new w5 Z 32
              have hgz := hbe.size
              replace hbe := hbe.trans (hb.mono hbe.size)
              clear hb hS
              have hS := HCC.out _ hbe
              refine ⟨hS, ?_⟩
              simp only [Act.put, List.setIfInBounds_toArray, List.set_cons_zero, List.set_cons_succ]
              generalize hWz : w5.alloc (.cells Z.toArray 32) = wz at hz hbe hS  ⊢
              generalize w5.heap.size = G at hz hgz  ⊢
              clear hWz
              refine allH [31] 31 (fuel := 1) (by kernel_rfl) ?_
              have TH := hz.there 0 31 (by rw [HZL.out]; omega)
              refine storeH _ rfl rfl (by rfl) 32 (.tmp 4) (.tmp 45) rfl G 0 TT.toArray rfl rfl (by simpa [HTL.out] using TH) (by simpa [HTL.out] using info_turn) (all_oneCell_toArray HT1.out) ?_
              rw [show wz.setCells G 0 TT.toArray.toList = wz.setCells G 0 TT from rfl]
              have hzd := hz.whole (ds := TT) (by rw [HTL.out, HZL.out])
              replace hbe := below_sets hgz TT 0 hbe
              clear hS
              have hS := HCC.out _ hbe
              refine ⟨hS, ?_⟩
              generalize wz.setCells G 0 TT = wy at hzd hbe hS  ⊢
              refine takeH (i := 32) (oi := _) (v := (.bool s)) (fuel := 0) (some 5) rfl rfl (by kernel_rfl) (by kernel_rfl) (by kernel_rfl) (fun _ _ _ h => h) (.inl ⟨by rfl, fun wz hS => by simp [go_sem]⟩) hS ?_
              simp only [Act.put, List.setIfInBounds_toArray, List.set_cons_zero, List.set_cons_succ]
              refine wpAnyH_done (by kernel_rfl) ?_ _
              exact REST G wy ⟨hzd, hbe⟩
            · refine allocT (some 4) _ rfl rfl rfl (by rfl) _ (HRUNT.out _) ?_
              have hb := (Below.refl _ wd).alloc (Nat.le_refl wd.heap.size) (.cells Z.toArray 32)
              have hz := Blk.new wd Z 32
              have hgz := hbe.size
              replace hbe := hbe.trans (hb.mono hbe.size)
              clear hb hS
              have hS := HCC.out _ hbe
              refine ⟨hS, ?_⟩
              simp only [Act.put, List.setIfInBounds_toArray, List.set_cons_zero, List.set_cons_succ]
              generalize hWz : wd.alloc (.cells Z.toArray 32) = wz at hz hbe hS  ⊢
              generalize wd.heap.size = G at hz hgz  ⊢
              clear hWz
              refine allH [26] 26 (fuel := 5) (by kernel_rfl) ?_
              refine callH (some 44) _ rfl rfl 9 #[.int .i64 q, .int .i64 y, .int .i64 x, .agg CC.toArray, .bool true] (by simp [go_sem]) (by rfl) ((HP1.out _).mono ?_)
              rintro e w6 ⟨rfl, hb⟩
              replace hz := hz.later hb
              replace hbe := hbe.trans (hb.mono hbe.size)
              clear hb hS
              have hS := HCC.out _ hbe
              refine ⟨_, rfl, hS, ?_⟩
              simp only [Act.put, List.setIfInBounds_toArray, List.set_cons_zero, List.set_cons_succ]
              refine takeH (i := 27) (oi := _) (v := (.tuple #[.agg TT.toArray, .bool s])) (fuel := 4) (some 17) rfl rfl (by kernel_rfl) (by kernel_rfl) (by kernel_rfl) (fun _ _ _ h => h) (.inl ⟨by rfl, fun wz hS => by simp [go_sem]⟩) hS ?_
              simp only [Act.put, List.setIfInBounds_toArray, List.set_cons_zero, List.set_cons_succ]
              refine takeH (i := 28) (oi := _) (v := (.agg TT.toArray)) (fuel := 3) (some 45) rfl rfl (by kernel_rfl) (by kernel_rfl) (by kernel_rfl) (fun _ _ _ h => h) (.inl ⟨by rfl, fun wz hS => by simp [go_sem]⟩) hS ?_
              simp only [Act.put, List.setIfInBounds_toArray, List.set_cons_zero, List.set_cons_succ]
              refine takeH (i := 29) (oi := _) (v := (.bool s)) (fuel := 2) (some 46) rfl rfl (by kernel_rfl) (by kernel_rfl) (by kernel_rfl) (fun _ _ _ h => h) (.inl ⟨by rfl, fun wz hS => by simp [go_sem]⟩) hS ?_
              simp only [Act.put, List.setIfInBounds_toArray, List.set_cons_zero, List.set_cons_succ]
              refine allH [31] 31 (fuel := 1) (by kernel_rfl) ?_
              have TH := hz.there 0 31 (by rw [HZL.out]; omega)
              refine storeH _ rfl rfl (by rfl) 32 (.tmp 4) (.tmp 45) rfl G 0 TT.toArray rfl rfl (by simpa [HTL.out] using TH) (by simpa [HTL.out] using info_turn) (all_oneCell_toArray HT1.out) ?_
              rw [show w6.setCells G 0 TT.toArray.toList = w6.setCells G 0 TT from rfl]
              have hzd := hz.whole (ds := TT) (by rw [HTL.out, HZL.out])
              replace hbe := below_sets hgz TT 0 hbe
              clear hS
              have hS := HCC.out _ hbe
              refine ⟨hS, ?_⟩
              generalize w6.setCells G 0 TT = wy at hzd hbe hS  ⊢
              refine takeH (i := 32) (oi := _) (v := (.bool s)) (fuel := 0) (some 5) rfl rfl (by kernel_rfl) (by kernel_rfl) (by kernel_rfl) (fun _ _ _ h => h) (.inl ⟨by rfl, fun wz hS => by simp [go_sem]⟩) hS ?_
              simp only [Act.put, List.setIfInBounds_toArray, List.set_cons_zero, List.set_cons_succ]
              refine wpAnyH_done (by kernel_rfl) ?_ _
              exact REST G wy ⟨hzd, hbe⟩
          · rintro G1 w2 ⟨hG1, hb2⟩
            have HB2 := Lib.hid hb2
            have HG1 := Lib.hid hG1
            clear hb2 hG1 HP1
            go_wp2_with fail
            apply via (F := fun (G : Nat) (wz : World) => Blk wz G TT ∧ Below w.heap.size w wz ∧ Blk wz G1 TT)
            · intro REST
              refine wp_region_held (S := fun wz => wz.cell? ⟨b, o + k * 31, none⟩ = some (.int .i64 q) ∧ wz.cell? ⟨b, o + k * 31 + 1, none⟩ = some (.int .i64 x) ∧ wz.cell? ⟨b, o + k * 31 + 2, none⟩ = some (.int .i64 y) ∧ wz.cell? ⟨b, o + k * 31 + 3, none⟩ = some (.int .i64 z) ∧ wz.rangeAt b (o + k * 31 + 4) CC) (by kernel_rfl) ?_
              show Go.wpAnyH Try.prog Region.Mode.any _ _ _ _ _ _ w2.drew
              have hbe := HB2.out.drew
              have hP := HG1.out.drew
              have hS := HCC.out _ hbe
              generalize w2.drew = wd at hbe hS hP ⊢
              refine takeH (i := 0) (oi := _) (v := (.slice (some ⟨b, o, none⟩) n c)) (fuel := 32) (some 48) rfl rfl (by kernel_rfl) (by kernel_rfl) (by kernel_rfl) (fun _ _ _ h => h) (.inl ⟨by rfl, fun wz hS => by simp [go_sem]⟩) hS ?_
              simp only [Act.put, List.setIfInBounds_toArray, List.set_cons_zero, List.set_cons_succ]
              refine takeH (i := 1) (oi := _) (v := (.int .i64 (k : Int))) (fuel := 31) (some 49) rfl rfl (by kernel_rfl) (by kernel_rfl) (by kernel_rfl) (fun _ _ _ h => h) (.inl ⟨by rfl, fun wz hS => by simp [go_sem]⟩) hS ?_
              simp only [Act.put, List.setIfInBounds_toArray, List.set_cons_zero, List.set_cons_succ]
              refine takeH (i := 2) (oi := _) (v := (.pointer (some ⟨b, o + k * 31, none⟩))) (fuel := 30) (some 50) rfl rfl (by kernel_rfl) (by kernel_rfl) (by kernel_rfl) (fun _ _ _ h => h) (.inl ⟨by rfl, fun wz hS => by simp [go_sem, hnk]⟩) hS ?_
              simp only [Act.put, List.setIfInBounds_toArray, List.set_cons_zero, List.set_cons_succ]
              refine takeH (i := 3) (oi := _) (v := (.pointer (some ⟨b, o + k * 31, none⟩))) (fuel := 29) (some 51) rfl rfl (by kernel_rfl) (by kernel_rfl) (by kernel_rfl) (fun _ _ _ h => h) (.inl ⟨by rfl, fun wz hS => by simp [go_sem]⟩) hS ?_
              simp only [Act.put, List.setIfInBounds_toArray, List.set_cons_zero, List.set_cons_succ]
              refine takeH (i := 4) (oi := _) (v := (.int .i64 q)) (fuel := 28) (some 52) rfl rfl (by kernel_rfl) (by kernel_rfl) (by kernel_rfl) (fun _ _ _ h => h) (.inl ⟨by rfl, fun wz hS => by simp [go_sem, hS.1]⟩) hS ?_
              simp only [Act.put, List.setIfInBounds_toArray, List.set_cons_zero, List.set_cons_succ]
              refine takeH (i := 5) (oi := _) (v := (.slice (some ⟨b, o, none⟩) n c)) (fuel := 27) (some 53) rfl rfl (by kernel_rfl) (by kernel_rfl) (by kernel_rfl) (fun _ _ _ h => h) (.inl ⟨by rfl, fun wz hS => by simp [go_sem]⟩) hS ?_
              simp only [Act.put, List.setIfInBounds_toArray, List.set_cons_zero, List.set_cons_succ]
              refine takeH (i := 6) (oi := _) (v := (.int .i64 (k : Int))) (fuel := 26) (some 54) rfl rfl (by kernel_rfl) (by kernel_rfl) (by kernel_rfl) (fun _ _ _ h => h) (.inl ⟨by rfl, fun wz hS => by simp [go_sem]⟩) hS ?_
              simp only [Act.put, List.setIfInBounds_toArray, List.set_cons_zero, List.set_cons_succ]
              refine takeH (i := 7) (oi := _) (v := (.pointer (some ⟨b, o + k * 31, none⟩))) (fuel := 25) (some 55) rfl rfl (by kernel_rfl) (by kernel_rfl) (by kernel_rfl) (fun _ _ _ h => h) (.inl ⟨by rfl, fun wz hS => by simp [go_sem, hnk]⟩) hS ?_
              simp only [Act.put, List.setIfInBounds_toArray, List.set_cons_zero, List.set_cons_succ]
              refine takeH (i := 8) (oi := _) (v := (.pointer (some ⟨b, o + k * 31 + 2, none⟩))) (fuel := 24) (some 56) rfl rfl (by kernel_rfl) (by kernel_rfl) (by kernel_rfl) (fun _ _ _ h => h) (.inl ⟨by rfl, fun wz hS => by simp [go_sem]⟩) hS ?_
              simp only [Act.put, List.setIfInBounds_toArray, List.set_cons_zero, List.set_cons_succ]
              refine takeH (i := 9) (oi := _) (v := (.int .i64 y)) (fuel := 23) (some 57) rfl rfl (by kernel_rfl) (by kernel_rfl) (by kernel_rfl) (fun _ _ _ h => h) (.inl ⟨by rfl, fun wz hS => by simp [go_sem, hS.2.2.1]⟩) hS ?_
              simp only [Act.put, List.setIfInBounds_toArray, List.set_cons_zero, List.set_cons_succ]
              refine takeH (i := 10) (oi := _) (v := (.slice (some ⟨b, o, none⟩) n c)) (fuel := 22) (some 58) rfl rfl (by kernel_rfl) (by kernel_rfl) (by kernel_rfl) (fun _ _ _ h => h) (.inl ⟨by rfl, fun wz hS => by simp [go_sem]⟩) hS ?_
              simp only [Act.put, List.setIfInBounds_toArray, List.set_cons_zero, List.set_cons_succ]
              refine takeH (i := 11) (oi := _) (v := (.int .i64 (k : Int))) (fuel := 21) (some 59) rfl rfl (by kernel_rfl) (by kernel_rfl) (by kernel_rfl) (fun _ _ _ h => h) (.inl ⟨by rfl, fun wz hS => by simp [go_sem]⟩) hS ?_
              simp only [Act.put, List.setIfInBounds_toArray, List.set_cons_zero, List.set_cons_succ]
              refine takeH (i := 12) (oi := _) (v := (.pointer (some ⟨b, o + k * 31, none⟩))) (fuel := 20) (some 60) rfl rfl (by kernel_rfl) (by kernel_rfl) (by kernel_rfl) (fun _ _ _ h => h) (.inl ⟨by rfl, fun wz hS => by simp [go_sem, hnk]⟩) hS ?_
              simp only [Act.put, List.setIfInBounds_toArray, List.set_cons_zero, List.set_cons_succ]
              refine takeH (i := 13) (oi := _) (v := (.pointer (some ⟨b, o + k * 31 + 1, none⟩))) (fuel := 19) (some 61) rfl rfl (by kernel_rfl) (by kernel_rfl) (by kernel_rfl) (fun _ _ _ h => h) (.inl ⟨by rfl, fun wz hS => by simp [go_sem]⟩) hS ?_
              simp only [Act.put, List.setIfInBounds_toArray, List.set_cons_zero, List.set_cons_succ]
              refine takeH (i := 14) (oi := _) (v := (.int .i64 x)) (fuel := 18) (some 62) rfl rfl (by kernel_rfl) (by kernel_rfl) (by kernel_rfl) (fun _ _ _ h => h) (.inl ⟨by rfl, fun wz hS => by simp [go_sem, hS.2.1]⟩) hS ?_
              simp only [Act.put, List.setIfInBounds_toArray, List.set_cons_zero, List.set_cons_succ]
              refine takeH (i := 15) (oi := _) (v := (.slice (some ⟨b, o, none⟩) n c)) (fuel := 17) (some 63) rfl rfl (by kernel_rfl) (by kernel_rfl) (by kernel_rfl) (fun _ _ _ h => h) (.inl ⟨by rfl, fun wz hS => by simp [go_sem]⟩) hS ?_
              simp only [Act.put, List.setIfInBounds_toArray, List.set_cons_zero, List.set_cons_succ]
              refine takeH (i := 16) (oi := _) (v := (.int .i64 (k : Int))) (fuel := 16) (some 64) rfl rfl (by kernel_rfl) (by kernel_rfl) (by kernel_rfl) (fun _ _ _ h => h) (.inl ⟨by rfl, fun wz hS => by simp [go_sem]⟩) hS ?_
              simp only [Act.put, List.setIfInBounds_toArray, List.set_cons_zero, List.set_cons_succ]
              refine takeH (i := 17) (oi := _) (v := (.pointer (some ⟨b, o + k * 31, none⟩))) (fuel := 15) (some 65) rfl rfl (by kernel_rfl) (by kernel_rfl) (by kernel_rfl) (fun _ _ _ h => h) (.inl ⟨by rfl, fun wz hS => by simp [go_sem, hnk]⟩) hS ?_
              simp only [Act.put, List.setIfInBounds_toArray, List.set_cons_zero, List.set_cons_succ]
              refine takeH (i := 18) (oi := _) (v := (.pointer (some ⟨b, o + k * 31 + 4, none⟩))) (fuel := 14) (some 66) rfl rfl (by kernel_rfl) (by kernel_rfl) (by kernel_rfl) (fun _ _ _ h => h) (.inl ⟨by rfl, fun wz hS => by simp [go_sem]⟩) hS ?_
              simp only [Act.put, List.setIfInBounds_toArray, List.set_cons_zero, List.set_cons_succ]
              refine takeH (i := 19) (oi := _) (v := (.agg CC.toArray)) (fuel := 13) (some 67) rfl rfl (by kernel_rfl) (by kernel_rfl) (by kernel_rfl) (fun _ _ _ h => h) (.inl ⟨by rfl, fun wz hS => exec_load 30 (.tmp 66) rfl b (o + k * 31 + 4) rfl CC _ hS.2.2.2.2 huc rfl (by rw [HCL.out]; exact info_card)⟩) hS ?_
              simp only [Act.put, List.setIfInBounds_toArray, List.set_cons_zero, List.set_cons_succ]
              refine takeH (i := 20) (oi := _) (v := (.slice (some ⟨b, o, none⟩) n c)) (fuel := 12) (some 68) rfl rfl (by kernel_rfl) (by kernel_rfl) (by kernel_rfl) (fun _ _ _ h => h) (.inl ⟨by rfl, fun wz hS => by simp [go_sem]⟩) hS ?_
              simp only [Act.put, List.setIfInBounds_toArray, List.set_cons_zero, List.set_cons_succ]
              refine takeH (i := 21) (oi := _) (v := (.int .i64 (k : Int))) (fuel := 11) (some 69) rfl rfl (by kernel_rfl) (by kernel_rfl) (by kernel_rfl) (fun _ _ _ h => h) (.inl ⟨by rfl, fun wz hS => by simp [go_sem]⟩) hS ?_
              simp only [Act.put, List.setIfInBounds_toArray, List.set_cons_zero, List.set_cons_succ]
              refine takeH (i := 22) (oi := _) (v := (.pointer (some ⟨b, o + k * 31, none⟩))) (fuel := 10) (some 70) rfl rfl (by kernel_rfl) (by kernel_rfl) (by kernel_rfl) (fun _ _ _ h => h) (.inl ⟨by rfl, fun wz hS => by simp [go_sem, hnk]⟩) hS ?_
              simp only [Act.put, List.setIfInBounds_toArray, List.set_cons_zero, List.set_cons_succ]
              refine takeH (i := 23) (oi := _) (v := (.pointer (some ⟨b, o + k * 31 + 3, none⟩))) (fuel := 9) (some 71) rfl rfl (by kernel_rfl) (by kernel_rfl) (by kernel_rfl) (fun _ _ _ h => h) (.inl ⟨by rfl, fun wz hS => by simp [go_sem]⟩) hS ?_
              simp only [Act.put, List.setIfInBounds_toArray, List.set_cons_zero, List.set_cons_succ]
              refine takeH (i := 24) (oi := _) (v := (.int .i64 z)) (fuel := 8) (some 72) rfl rfl (by kernel_rfl) (by kernel_rfl) (by kernel_rfl) (fun _ _ _ h => h) (.inl ⟨by rfl, fun wz hS => by simp [go_sem, hS.2.2.2.1]⟩) hS ?_
              simp only [Act.put, List.setIfInBounds_toArray, List.set_cons_zero, List.set_cons_succ]
              refine takeH (i := 25) (oi := _) (v := (.bool true)) (fuel := 7) (some 73) rfl rfl (by kernel_rfl) (by kernel_rfl) (by kernel_rfl) (fun _ _ _ h => h) (.inl ⟨by rfl, fun wz hS => by simp [go_sem, dz]⟩) hS ?_
              simp only [Act.put, List.setIfInBounds_toArray, List.set_cons_zero, List.set_cons_succ]
              refine wpAnyH_all (fuel := 6) (rs := [26, 30]) (by kernel_rfl) (by simp) (fun i hi => ?_)
              simp only [List.mem_cons, List.not_mem_nil, or_false] at hi
              rcases hi with rfl | rfl
              · refine callH (some 74) _ rfl rfl 10 #[.int .i64 q, .int .i64 y, .int .i64 x, .agg CC.toArray, .bool true] (by simp [go_sem]) (by rfl) ((HP2.out _).mono ?_)
                rintro e w5 ⟨rfl, hb⟩
                replace hP := hP.later hb
                replace hbe := hbe.trans (hb.mono hbe.size)
                clear hb hS
                have hS := HCC.out _ hbe
                refine ⟨_, rfl, hS, ?_⟩
                simp only [Act.put, List.setIfInBounds_toArray, List.set_cons_zero, List.set_cons_succ]
                refine takeH (i := 27) (oi := _) (v := (.tuple #[.agg TT.toArray, .bool s])) (fuel := 5) (some 47) rfl rfl (by kernel_rfl) (by kernel_rfl) (by kernel_rfl) (fun _ _ _ h => h) (.inl ⟨by rfl, fun wz hS => by simp [go_sem]⟩) hS ?_
                simp only [Act.put, List.setIfInBounds_toArray, List.set_cons_zero, List.set_cons_succ]
                refine takeH (i := 28) (oi := _) (v := (.agg TT.toArray)) (fuel := 4) (some 75) rfl rfl (by kernel_rfl) (by kernel_rfl) (by kernel_rfl) (fun _ _ _ h => h) (.inl ⟨by rfl, fun wz hS => by simp [go_sem]⟩) hS ?_
                simp only [Act.put, List.setIfInBounds_toArray, List.set_cons_zero, List.set_cons_succ]
                refine takeH (i := 29) (oi := _) (v := (.bool s)) (fuel := 3) (some 76) rfl rfl (by kernel_rfl) (by kernel_rfl) (by kernel_rfl) (fun _ _ _ h => h) (.inl ⟨by rfl, fun wz hS => by simp [go_sem]⟩) hS ?_
                simp only [Act.put, List.setIfInBounds_toArray, List.set_cons_zero, List.set_cons_succ]
                refine allH [30] 30 (fuel := 2) (by kernel_rfl) ?_
                refine allocT (some 6) _ rfl rfl rfl (by rfl) _ (HRUNT.out _) ?_
                have hb := (Below.refl _ w5).alloc (Nat.le_refl w5.heap.size) (.cells Z.toArray 32)
                have hz := Blk.new w5 Z 32
                have hgz := hbe.size
                have hlt_hP := hP.lt
                replace hP := hP.later hb
                replace hbe := hbe.trans (hb.mono hbe.size)
                clear hb hS
                have hS := HCC.out _ hbe
                refine ⟨hS, ?_⟩
                simp only [Act.put, List.setIfInBounds_toArray, List.set_cons_zero, List.set_cons_succ]
                generalize hWz : w5.alloc (.cells Z.toArray 32) = wz at hz hbe hS hP ⊢
                generalize w5.heap.size = G at hz hgz hlt_hP ⊢
                clear hWz
                refine allH [31] 31 (fuel := 1) (by kernel_rfl) ?_
                have TH := hz.there 0 31 (by rw [HZL.out]; omega)
                refine storeH _ rfl rfl (by rfl) 32 (.tmp 6) (.tmp 75) rfl G 0 TT.toArray rfl rfl (by simpa [HTL.out] using TH) (by simpa [HTL.out] using info_turn) (all_oneCell_toArray HT1.out) ?_
                rw [show wz.setCells G 0 TT.toArray.toList = wz.setCells G 0 TT from rfl]
                have hzd := hz.whole (ds := TT) (by rw [HTL.out, HZL.out])
                have hPz := hP.setsOther (b := G) (by omega) TT 0
                replace hbe := below_sets hgz TT 0 hbe
                clear hS
                have hS := HCC.out _ hbe
                refine ⟨hS, ?_⟩
                generalize wz.setCells G 0 TT = wy at hzd hbe hS hPz ⊢
                refine takeH (i := 32) (oi := _) (v := (.bool s)) (fuel := 0) (some 7) rfl rfl (by kernel_rfl) (by kernel_rfl) (by kernel_rfl) (fun _ _ _ h => h) (.inl ⟨by rfl, fun wz hS => by simp [go_sem]⟩) hS ?_
                simp only [Act.put, List.setIfInBounds_toArray, List.set_cons_zero, List.set_cons_succ]
                refine wpAnyH_done (by kernel_rfl) ?_ _
                exact REST G wy ⟨hzd, hbe, hPz⟩
              · refine allocT (some 6) _ rfl rfl rfl (by rfl) _ (HRUNT.out _) ?_
                have hb := (Below.refl _ wd).alloc (Nat.le_refl wd.heap.size) (.cells Z.toArray 32)
                have hz := Blk.new wd Z 32
                have hgz := hbe.size
                have hlt_hP := hP.lt
                replace hP := hP.later hb
                replace hbe := hbe.trans (hb.mono hbe.size)
                clear hb hS
                have hS := HCC.out _ hbe
                refine ⟨hS, ?_⟩
                simp only [Act.put, List.setIfInBounds_toArray, List.set_cons_zero, List.set_cons_succ]
                generalize hWz : wd.alloc (.cells Z.toArray 32) = wz at hz hbe hS hP ⊢
                generalize wd.heap.size = G at hz hgz hlt_hP ⊢
                clear hWz
                refine allH [26] 26 (fuel := 5) (by kernel_rfl) ?_
                refine callH (some 74) _ rfl rfl 10 #[.int .i64 q, .int .i64 y, .int .i64 x, .agg CC.toArray, .bool true] (by simp [go_sem]) (by rfl) ((HP2.out _).mono ?_)
                rintro e w6 ⟨rfl, hb⟩
                replace hP := hP.later hb
                replace hz := hz.later hb
                replace hbe := hbe.trans (hb.mono hbe.size)
                clear hb hS
                have hS := HCC.out _ hbe
                refine ⟨_, rfl, hS, ?_⟩
                simp only [Act.put, List.setIfInBounds_toArray, List.set_cons_zero, List.set_cons_succ]
                refine takeH (i := 27) (oi := _) (v := (.tuple #[.agg TT.toArray, .bool s])) (fuel := 4) (some 47) rfl rfl (by kernel_rfl) (by kernel_rfl) (by kernel_rfl) (fun _ _ _ h => h) (.inl ⟨by rfl, fun wz hS => by simp [go_sem]⟩) hS ?_
                simp only [Act.put, List.setIfInBounds_toArray, List.set_cons_zero, List.set_cons_succ]
                refine takeH (i := 28) (oi := _) (v := (.agg TT.toArray)) (fuel := 3) (some 75) rfl rfl (by kernel_rfl) (by kernel_rfl) (by kernel_rfl) (fun _ _ _ h => h) (.inl ⟨by rfl, fun wz hS => by simp [go_sem]⟩) hS ?_
                simp only [Act.put, List.setIfInBounds_toArray, List.set_cons_zero, List.set_cons_succ]
                refine takeH (i := 29) (oi := _) (v := (.bool s)) (fuel := 2) (some 76) rfl rfl (by kernel_rfl) (by kernel_rfl) (by kernel_rfl) (fun _ _ _ h => h) (.inl ⟨by rfl, fun wz hS => by simp [go_sem]⟩) hS ?_
                simp only [Act.put, List.setIfInBounds_toArray, List.set_cons_zero, List.set_cons_succ]
                refine allH [31] 31 (fuel := 1) (by kernel_rfl) ?_
                have TH := hz.there 0 31 (by rw [HZL.out]; omega)
                refine storeH _ rfl rfl (by rfl) 32 (.tmp 6) (.tmp 75) rfl G 0 TT.toArray rfl rfl (by simpa [HTL.out] using TH) (by simpa [HTL.out] using info_turn) (all_oneCell_toArray HT1.out) ?_
                rw [show w6.setCells G 0 TT.toArray.toList = w6.setCells G 0 TT from rfl]
                have hzd := hz.whole (ds := TT) (by rw [HTL.out, HZL.out])
                have hPz := hP.setsOther (b := G) (by omega) TT 0
                replace hbe := below_sets hgz TT 0 hbe
                clear hS
                have hS := HCC.out _ hbe
                refine ⟨hS, ?_⟩
                generalize w6.setCells G 0 TT = wy at hzd hbe hS hPz ⊢
                refine takeH (i := 32) (oi := _) (v := (.bool s)) (fuel := 0) (some 7) rfl rfl (by kernel_rfl) (by kernel_rfl) (by kernel_rfl) (fun _ _ _ h => h) (.inl ⟨by rfl, fun wz hS => by simp [go_sem]⟩) hS ?_
                simp only [Act.put, List.setIfInBounds_toArray, List.set_cons_zero, List.set_cons_succ]
                refine wpAnyH_done (by kernel_rfl) ?_ _
                exact REST G wy ⟨hzd, hbe, hPz⟩
            · rintro G3 w3 ⟨hG3, hb3, hG1⟩
              have HBF := Lib.hid hb3
              have RG1 := hG1.wholeC
              have RG2 := hG3.wholeC
              clear hb3 hG1 hG3 HP2
              have g9 : (s != s) = false := by cases s <;> rfl
              go_wp2_with (first
                | (refine wpList_load_mid rfl 32 (.tmp 4) rfl G1 0 rfl TT _ RG1 hu rfl (by rw [HTL.out]; exact info_turn) ?_
                   simp only [Act.put, List.setIfInBounds_toArray, List.set_cons_zero, List.set_cons_succ])
                | (refine wpList_load_mid rfl 32 (.tmp 6) rfl G3 0 rfl TT _ RG2 hu rfl (by rw [HTL.out]; exact info_turn) ?_
                   simp only [Act.put, List.setIfInBounds_toArray, List.set_cons_zero, List.set_cons_succ])
                | (refine wpList_exec (by rfl) (.bool (!true)) (exec_neq 32 _ (.tmp 77) (.tmp 78) rfl _ _ rfl rfl guard_turn true (HEQ.out _)) ?_
                   simp only [Act.put, List.setIfInBounds_toArray, List.set_cons_zero, List.set_cons_succ, Bool.not_true])
                | fail)
              go_roundw
              case rel => exact ⟨k + 1, by omega, by go_num, HBF⟩
              case measure => simp [iOf]; omega
        · have dz : decide (0 < z) = false := decide_eq_false hz
          clear hz
          have HOT := Lib.hid (HOK1.out false)
          have HP1 : Hid (∀ wx, Calls Try.prog 9 #[.int .i64 q, .int .i64 y, .int .i64 x, .agg CC.toArray, .bool false] wx fun e w' => e = .returned (.tuple #[.agg (tcl (ofTn (ofT q y x cd false))).toArray, .bool (ofT q y x cd false).isSome]) ∧ Below wx.heap.size wx w') := Lib.hid (fun wx => by
            have := HO1.out false wx
            rwa [ofOut_is] at this)
          have HP2 : Hid (∀ wx, Calls Try.prog 10 #[.int .i64 q, .int .i64 y, .int .i64 x, .agg CC.toArray, .bool false] wx fun e w' => e = .returned (.tuple #[.agg (tcl (ofTn (ofT q y x cd false))).toArray, .bool (ofT q y x cd false).isSome]) ∧ Below wx.heap.size wx w') := Lib.hid (fun wx => by
            have := HO2.out false wx
            rwa [ofOut_is] at this)
          have HEQ := Lib.hid (fun wx : World => eq_tcl (ofTn (ofT q y x cd false)) (ofTn (ofT q y x cd false)) HOT.out HOT.out wx)
          have HTL := Lib.hid (tcl_len HOT.out)
          have HT1 := Lib.hid (tcl_one (ofTn (ofT q y x cd false)))
          rw [decide_eq_true rfl] at HEQ
          obtain ⟨TT, hTT⟩ : ∃ TT, TT = tcl (ofTn (ofT q y x cd false)) := ⟨_, rfl⟩
          rw [← hTT] at HP1 HP2 HEQ HTL HT1
          generalize (ofT q y x cd false).isSome = s at HP1 HP2
          clear HO1 HO2 HOK1 HOT hTT
          go_wp2_with fail
          apply via (F := fun (G : Nat) (wz : World) => Blk wz G TT ∧ Below w.heap.size w wz)
          · intro REST
            refine wp_region_held (S := fun wz => wz.cell? ⟨b, o + k * 31, none⟩ = some (.int .i64 q) ∧ wz.cell? ⟨b, o + k * 31 + 1, none⟩ = some (.int .i64 x) ∧ wz.cell? ⟨b, o + k * 31 + 2, none⟩ = some (.int .i64 y) ∧ wz.cell? ⟨b, o + k * 31 + 3, none⟩ = some (.int .i64 z) ∧ wz.rangeAt b (o + k * 31 + 4) CC) (by kernel_rfl) ?_
            show Go.wpAnyH Try.prog Region.Mode.any _ _ _ _ _ _ wr.drew
            have hbe := HB.out.drew
            have hS := HCC.out _ hbe
            generalize wr.drew = wd at hbe hS  ⊢
            refine takeH (i := 0) (oi := _) (v := (.slice (some ⟨b, o, none⟩) n c)) (fuel := 32) (some 18) rfl rfl (by kernel_rfl) (by kernel_rfl) (by kernel_rfl) (fun _ _ _ h => h) (.inl ⟨by rfl, fun wz hS => by simp [go_sem]⟩) hS ?_
            simp only [Act.put, List.setIfInBounds_toArray, List.set_cons_zero, List.set_cons_succ]
            refine takeH (i := 1) (oi := _) (v := (.int .i64 (k : Int))) (fuel := 31) (some 19) rfl rfl (by kernel_rfl) (by kernel_rfl) (by kernel_rfl) (fun _ _ _ h => h) (.inl ⟨by rfl, fun wz hS => by simp [go_sem]⟩) hS ?_
            simp only [Act.put, List.setIfInBounds_toArray, List.set_cons_zero, List.set_cons_succ]
            refine takeH (i := 2) (oi := _) (v := (.pointer (some ⟨b, o + k * 31, none⟩))) (fuel := 30) (some 20) rfl rfl (by kernel_rfl) (by kernel_rfl) (by kernel_rfl) (fun _ _ _ h => h) (.inl ⟨by rfl, fun wz hS => by simp [go_sem, hnk]⟩) hS ?_
            simp only [Act.put, List.setIfInBounds_toArray, List.set_cons_zero, List.set_cons_succ]
            refine takeH (i := 3) (oi := _) (v := (.pointer (some ⟨b, o + k * 31, none⟩))) (fuel := 29) (some 21) rfl rfl (by kernel_rfl) (by kernel_rfl) (by kernel_rfl) (fun _ _ _ h => h) (.inl ⟨by rfl, fun wz hS => by simp [go_sem]⟩) hS ?_
            simp only [Act.put, List.setIfInBounds_toArray, List.set_cons_zero, List.set_cons_succ]
            refine takeH (i := 4) (oi := _) (v := (.int .i64 q)) (fuel := 28) (some 22) rfl rfl (by kernel_rfl) (by kernel_rfl) (by kernel_rfl) (fun _ _ _ h => h) (.inl ⟨by rfl, fun wz hS => by simp [go_sem, hS.1]⟩) hS ?_
            simp only [Act.put, List.setIfInBounds_toArray, List.set_cons_zero, List.set_cons_succ]
            refine takeH (i := 5) (oi := _) (v := (.slice (some ⟨b, o, none⟩) n c)) (fuel := 27) (some 23) rfl rfl (by kernel_rfl) (by kernel_rfl) (by kernel_rfl) (fun _ _ _ h => h) (.inl ⟨by rfl, fun wz hS => by simp [go_sem]⟩) hS ?_
            simp only [Act.put, List.setIfInBounds_toArray, List.set_cons_zero, List.set_cons_succ]
            refine takeH (i := 6) (oi := _) (v := (.int .i64 (k : Int))) (fuel := 26) (some 24) rfl rfl (by kernel_rfl) (by kernel_rfl) (by kernel_rfl) (fun _ _ _ h => h) (.inl ⟨by rfl, fun wz hS => by simp [go_sem]⟩) hS ?_
            simp only [Act.put, List.setIfInBounds_toArray, List.set_cons_zero, List.set_cons_succ]
            refine takeH (i := 7) (oi := _) (v := (.pointer (some ⟨b, o + k * 31, none⟩))) (fuel := 25) (some 25) rfl rfl (by kernel_rfl) (by kernel_rfl) (by kernel_rfl) (fun _ _ _ h => h) (.inl ⟨by rfl, fun wz hS => by simp [go_sem, hnk]⟩) hS ?_
            simp only [Act.put, List.setIfInBounds_toArray, List.set_cons_zero, List.set_cons_succ]
            refine takeH (i := 8) (oi := _) (v := (.pointer (some ⟨b, o + k * 31 + 2, none⟩))) (fuel := 24) (some 26) rfl rfl (by kernel_rfl) (by kernel_rfl) (by kernel_rfl) (fun _ _ _ h => h) (.inl ⟨by rfl, fun wz hS => by simp [go_sem]⟩) hS ?_
            simp only [Act.put, List.setIfInBounds_toArray, List.set_cons_zero, List.set_cons_succ]
            refine takeH (i := 9) (oi := _) (v := (.int .i64 y)) (fuel := 23) (some 27) rfl rfl (by kernel_rfl) (by kernel_rfl) (by kernel_rfl) (fun _ _ _ h => h) (.inl ⟨by rfl, fun wz hS => by simp [go_sem, hS.2.2.1]⟩) hS ?_
            simp only [Act.put, List.setIfInBounds_toArray, List.set_cons_zero, List.set_cons_succ]
            refine takeH (i := 10) (oi := _) (v := (.slice (some ⟨b, o, none⟩) n c)) (fuel := 22) (some 28) rfl rfl (by kernel_rfl) (by kernel_rfl) (by kernel_rfl) (fun _ _ _ h => h) (.inl ⟨by rfl, fun wz hS => by simp [go_sem]⟩) hS ?_
            simp only [Act.put, List.setIfInBounds_toArray, List.set_cons_zero, List.set_cons_succ]
            refine takeH (i := 11) (oi := _) (v := (.int .i64 (k : Int))) (fuel := 21) (some 29) rfl rfl (by kernel_rfl) (by kernel_rfl) (by kernel_rfl) (fun _ _ _ h => h) (.inl ⟨by rfl, fun wz hS => by simp [go_sem]⟩) hS ?_
            simp only [Act.put, List.setIfInBounds_toArray, List.set_cons_zero, List.set_cons_succ]
            refine takeH (i := 12) (oi := _) (v := (.pointer (some ⟨b, o + k * 31, none⟩))) (fuel := 20) (some 30) rfl rfl (by kernel_rfl) (by kernel_rfl) (by kernel_rfl) (fun _ _ _ h => h) (.inl ⟨by rfl, fun wz hS => by simp [go_sem, hnk]⟩) hS ?_
            simp only [Act.put, List.setIfInBounds_toArray, List.set_cons_zero, List.set_cons_succ]
            refine takeH (i := 13) (oi := _) (v := (.pointer (some ⟨b, o + k * 31 + 1, none⟩))) (fuel := 19) (some 31) rfl rfl (by kernel_rfl) (by kernel_rfl) (by kernel_rfl) (fun _ _ _ h => h) (.inl ⟨by rfl, fun wz hS => by simp [go_sem]⟩) hS ?_
            simp only [Act.put, List.setIfInBounds_toArray, List.set_cons_zero, List.set_cons_succ]
            refine takeH (i := 14) (oi := _) (v := (.int .i64 x)) (fuel := 18) (some 32) rfl rfl (by kernel_rfl) (by kernel_rfl) (by kernel_rfl) (fun _ _ _ h => h) (.inl ⟨by rfl, fun wz hS => by simp [go_sem, hS.2.1]⟩) hS ?_
            simp only [Act.put, List.setIfInBounds_toArray, List.set_cons_zero, List.set_cons_succ]
            refine takeH (i := 15) (oi := _) (v := (.slice (some ⟨b, o, none⟩) n c)) (fuel := 17) (some 33) rfl rfl (by kernel_rfl) (by kernel_rfl) (by kernel_rfl) (fun _ _ _ h => h) (.inl ⟨by rfl, fun wz hS => by simp [go_sem]⟩) hS ?_
            simp only [Act.put, List.setIfInBounds_toArray, List.set_cons_zero, List.set_cons_succ]
            refine takeH (i := 16) (oi := _) (v := (.int .i64 (k : Int))) (fuel := 16) (some 34) rfl rfl (by kernel_rfl) (by kernel_rfl) (by kernel_rfl) (fun _ _ _ h => h) (.inl ⟨by rfl, fun wz hS => by simp [go_sem]⟩) hS ?_
            simp only [Act.put, List.setIfInBounds_toArray, List.set_cons_zero, List.set_cons_succ]
            refine takeH (i := 17) (oi := _) (v := (.pointer (some ⟨b, o + k * 31, none⟩))) (fuel := 15) (some 35) rfl rfl (by kernel_rfl) (by kernel_rfl) (by kernel_rfl) (fun _ _ _ h => h) (.inl ⟨by rfl, fun wz hS => by simp [go_sem, hnk]⟩) hS ?_
            simp only [Act.put, List.setIfInBounds_toArray, List.set_cons_zero, List.set_cons_succ]
            refine takeH (i := 18) (oi := _) (v := (.pointer (some ⟨b, o + k * 31 + 4, none⟩))) (fuel := 14) (some 36) rfl rfl (by kernel_rfl) (by kernel_rfl) (by kernel_rfl) (fun _ _ _ h => h) (.inl ⟨by rfl, fun wz hS => by simp [go_sem]⟩) hS ?_
            simp only [Act.put, List.setIfInBounds_toArray, List.set_cons_zero, List.set_cons_succ]
            refine takeH (i := 19) (oi := _) (v := (.agg CC.toArray)) (fuel := 13) (some 37) rfl rfl (by kernel_rfl) (by kernel_rfl) (by kernel_rfl) (fun _ _ _ h => h) (.inl ⟨by rfl, fun wz hS => exec_load 30 (.tmp 36) rfl b (o + k * 31 + 4) rfl CC _ hS.2.2.2.2 huc rfl (by rw [HCL.out]; exact info_card)⟩) hS ?_
            simp only [Act.put, List.setIfInBounds_toArray, List.set_cons_zero, List.set_cons_succ]
            refine takeH (i := 20) (oi := _) (v := (.slice (some ⟨b, o, none⟩) n c)) (fuel := 12) (some 38) rfl rfl (by kernel_rfl) (by kernel_rfl) (by kernel_rfl) (fun _ _ _ h => h) (.inl ⟨by rfl, fun wz hS => by simp [go_sem]⟩) hS ?_
            simp only [Act.put, List.setIfInBounds_toArray, List.set_cons_zero, List.set_cons_succ]
            refine takeH (i := 21) (oi := _) (v := (.int .i64 (k : Int))) (fuel := 11) (some 39) rfl rfl (by kernel_rfl) (by kernel_rfl) (by kernel_rfl) (fun _ _ _ h => h) (.inl ⟨by rfl, fun wz hS => by simp [go_sem]⟩) hS ?_
            simp only [Act.put, List.setIfInBounds_toArray, List.set_cons_zero, List.set_cons_succ]
            refine takeH (i := 22) (oi := _) (v := (.pointer (some ⟨b, o + k * 31, none⟩))) (fuel := 10) (some 40) rfl rfl (by kernel_rfl) (by kernel_rfl) (by kernel_rfl) (fun _ _ _ h => h) (.inl ⟨by rfl, fun wz hS => by simp [go_sem, hnk]⟩) hS ?_
            simp only [Act.put, List.setIfInBounds_toArray, List.set_cons_zero, List.set_cons_succ]
            refine takeH (i := 23) (oi := _) (v := (.pointer (some ⟨b, o + k * 31 + 3, none⟩))) (fuel := 9) (some 41) rfl rfl (by kernel_rfl) (by kernel_rfl) (by kernel_rfl) (fun _ _ _ h => h) (.inl ⟨by rfl, fun wz hS => by simp [go_sem]⟩) hS ?_
            simp only [Act.put, List.setIfInBounds_toArray, List.set_cons_zero, List.set_cons_succ]
            refine takeH (i := 24) (oi := _) (v := (.int .i64 z)) (fuel := 8) (some 42) rfl rfl (by kernel_rfl) (by kernel_rfl) (by kernel_rfl) (fun _ _ _ h => h) (.inl ⟨by rfl, fun wz hS => by simp [go_sem, hS.2.2.2.1]⟩) hS ?_
            simp only [Act.put, List.setIfInBounds_toArray, List.set_cons_zero, List.set_cons_succ]
            refine takeH (i := 25) (oi := _) (v := (.bool false)) (fuel := 7) (some 43) rfl rfl (by kernel_rfl) (by kernel_rfl) (by kernel_rfl) (fun _ _ _ h => h) (.inl ⟨by rfl, fun wz hS => by simp [go_sem, dz]⟩) hS ?_
            simp only [Act.put, List.setIfInBounds_toArray, List.set_cons_zero, List.set_cons_succ]
            refine wpAnyH_all (fuel := 6) (rs := [26, 30]) (by kernel_rfl) (by simp) (fun i hi => ?_)
            simp only [List.mem_cons, List.not_mem_nil, or_false] at hi
            rcases hi with rfl | rfl
            · refine callH (some 44) _ rfl rfl 9 #[.int .i64 q, .int .i64 y, .int .i64 x, .agg CC.toArray, .bool false] (by simp [go_sem]) (by rfl) ((HP1.out _).mono ?_)
              rintro e w5 ⟨rfl, hb⟩
              replace hbe := hbe.trans (hb.mono hbe.size)
              clear hb hS
              have hS := HCC.out _ hbe
              refine ⟨_, rfl, hS, ?_⟩
              simp only [Act.put, List.setIfInBounds_toArray, List.set_cons_zero, List.set_cons_succ]
              refine takeH (i := 27) (oi := _) (v := (.tuple #[.agg TT.toArray, .bool s])) (fuel := 5) (some 17) rfl rfl (by kernel_rfl) (by kernel_rfl) (by kernel_rfl) (fun _ _ _ h => h) (.inl ⟨by rfl, fun wz hS => by simp [go_sem]⟩) hS ?_
              simp only [Act.put, List.setIfInBounds_toArray, List.set_cons_zero, List.set_cons_succ]
              refine takeH (i := 28) (oi := _) (v := (.agg TT.toArray)) (fuel := 4) (some 45) rfl rfl (by kernel_rfl) (by kernel_rfl) (by kernel_rfl) (fun _ _ _ h => h) (.inl ⟨by rfl, fun wz hS => by simp [go_sem]⟩) hS ?_
              simp only [Act.put, List.setIfInBounds_toArray, List.set_cons_zero, List.set_cons_succ]
              refine takeH (i := 29) (oi := _) (v := (.bool s)) (fuel := 3) (some 46) rfl rfl (by kernel_rfl) (by kernel_rfl) (by kernel_rfl) (fun _ _ _ h => h) (.inl ⟨by rfl, fun wz hS => by simp [go_sem]⟩) hS ?_
              simp only [Act.put, List.setIfInBounds_toArray, List.set_cons_zero, List.set_cons_succ]
              refine allH [30] 30 (fuel := 2) (by kernel_rfl) ?_
              refine allocT (some 4) _ rfl rfl rfl (by rfl) _ (HRUNT.out _) ?_
              have hb := (Below.refl _ w5).alloc (Nat.le_refl w5.heap.size) (.cells Z.toArray 32)
              have hz := Blk.new w5 Z 32
              have hgz := hbe.size
              replace hbe := hbe.trans (hb.mono hbe.size)
              clear hb hS
              have hS := HCC.out _ hbe
              refine ⟨hS, ?_⟩
              simp only [Act.put, List.setIfInBounds_toArray, List.set_cons_zero, List.set_cons_succ]
              generalize hWz : w5.alloc (.cells Z.toArray 32) = wz at hz hbe hS  ⊢
              generalize w5.heap.size = G at hz hgz  ⊢
              clear hWz
              refine allH [31] 31 (fuel := 1) (by kernel_rfl) ?_
              have TH := hz.there 0 31 (by rw [HZL.out]; omega)
              refine storeH _ rfl rfl (by rfl) 32 (.tmp 4) (.tmp 45) rfl G 0 TT.toArray rfl rfl (by simpa [HTL.out] using TH) (by simpa [HTL.out] using info_turn) (all_oneCell_toArray HT1.out) ?_
              rw [show wz.setCells G 0 TT.toArray.toList = wz.setCells G 0 TT from rfl]
              have hzd := hz.whole (ds := TT) (by rw [HTL.out, HZL.out])
              replace hbe := below_sets hgz TT 0 hbe
              clear hS
              have hS := HCC.out _ hbe
              refine ⟨hS, ?_⟩
              generalize wz.setCells G 0 TT = wy at hzd hbe hS  ⊢
              refine takeH (i := 32) (oi := _) (v := (.bool s)) (fuel := 0) (some 5) rfl rfl (by kernel_rfl) (by kernel_rfl) (by kernel_rfl) (fun _ _ _ h => h) (.inl ⟨by rfl, fun wz hS => by simp [go_sem]⟩) hS ?_
              simp only [Act.put, List.setIfInBounds_toArray, List.set_cons_zero, List.set_cons_succ]
              refine wpAnyH_done (by kernel_rfl) ?_ _
              exact REST G wy ⟨hzd, hbe⟩
            · refine allocT (some 4) _ rfl rfl rfl (by rfl) _ (HRUNT.out _) ?_
              have hb := (Below.refl _ wd).alloc (Nat.le_refl wd.heap.size) (.cells Z.toArray 32)
              have hz := Blk.new wd Z 32
              have hgz := hbe.size
              replace hbe := hbe.trans (hb.mono hbe.size)
              clear hb hS
              have hS := HCC.out _ hbe
              refine ⟨hS, ?_⟩
              simp only [Act.put, List.setIfInBounds_toArray, List.set_cons_zero, List.set_cons_succ]
              generalize hWz : wd.alloc (.cells Z.toArray 32) = wz at hz hbe hS  ⊢
              generalize wd.heap.size = G at hz hgz  ⊢
              clear hWz
              refine allH [26] 26 (fuel := 5) (by kernel_rfl) ?_
              refine callH (some 44) _ rfl rfl 9 #[.int .i64 q, .int .i64 y, .int .i64 x, .agg CC.toArray, .bool false] (by simp [go_sem]) (by rfl) ((HP1.out _).mono ?_)
              rintro e w6 ⟨rfl, hb⟩
              replace hz := hz.later hb
              replace hbe := hbe.trans (hb.mono hbe.size)
              clear hb hS
              have hS := HCC.out _ hbe
              refine ⟨_, rfl, hS, ?_⟩
              simp only [Act.put, List.setIfInBounds_toArray, List.set_cons_zero, List.set_cons_succ]
              refine takeH (i := 27) (oi := _) (v := (.tuple #[.agg TT.toArray, .bool s])) (fuel := 4) (some 17) rfl rfl (by kernel_rfl) (by kernel_rfl) (by kernel_rfl) (fun _ _ _ h => h) (.inl ⟨by rfl, fun wz hS => by simp [go_sem]⟩) hS ?_
              simp only [Act.put, List.setIfInBounds_toArray, List.set_cons_zero, List.set_cons_succ]
              refine takeH (i := 28) (oi := _) (v := (.agg TT.toArray)) (fuel := 3) (some 45) rfl rfl (by kernel_rfl) (by kernel_rfl) (by kernel_rfl) (fun _ _ _ h => h) (.inl ⟨by rfl, fun wz hS => by simp [go_sem]⟩) hS ?_
              simp only [Act.put, List.setIfInBounds_toArray, List.set_cons_zero, List.set_cons_succ]
              refine takeH (i := 29) (oi := _) (v := (.bool s)) (fuel := 2) (some 46) rfl rfl (by kernel_rfl) (by kernel_rfl) (by kernel_rfl) (fun _ _ _ h => h) (.inl ⟨by rfl, fun wz hS => by simp [go_sem]⟩) hS ?_
              simp only [Act.put, List.setIfInBounds_toArray, List.set_cons_zero, List.set_cons_succ]
              refine allH [31] 31 (fuel := 1) (by kernel_rfl) ?_
              have TH := hz.there 0 31 (by rw [HZL.out]; omega)
              refine storeH _ rfl rfl (by rfl) 32 (.tmp 4) (.tmp 45) rfl G 0 TT.toArray rfl rfl (by simpa [HTL.out] using TH) (by simpa [HTL.out] using info_turn) (all_oneCell_toArray HT1.out) ?_
              rw [show w6.setCells G 0 TT.toArray.toList = w6.setCells G 0 TT from rfl]
              have hzd := hz.whole (ds := TT) (by rw [HTL.out, HZL.out])
              replace hbe := below_sets hgz TT 0 hbe
              clear hS
              have hS := HCC.out _ hbe
              refine ⟨hS, ?_⟩
              generalize w6.setCells G 0 TT = wy at hzd hbe hS  ⊢
              refine takeH (i := 32) (oi := _) (v := (.bool s)) (fuel := 0) (some 5) rfl rfl (by kernel_rfl) (by kernel_rfl) (by kernel_rfl) (fun _ _ _ h => h) (.inl ⟨by rfl, fun wz hS => by simp [go_sem]⟩) hS ?_
              simp only [Act.put, List.setIfInBounds_toArray, List.set_cons_zero, List.set_cons_succ]
              refine wpAnyH_done (by kernel_rfl) ?_ _
              exact REST G wy ⟨hzd, hbe⟩
          · rintro G1 w2 ⟨hG1, hb2⟩
            have HB2 := Lib.hid hb2
            have HG1 := Lib.hid hG1
            clear hb2 hG1 HP1
            go_wp2_with fail
            apply via (F := fun (G : Nat) (wz : World) => Blk wz G TT ∧ Below w.heap.size w wz ∧ Blk wz G1 TT)
            · intro REST
              refine wp_region_held (S := fun wz => wz.cell? ⟨b, o + k * 31, none⟩ = some (.int .i64 q) ∧ wz.cell? ⟨b, o + k * 31 + 1, none⟩ = some (.int .i64 x) ∧ wz.cell? ⟨b, o + k * 31 + 2, none⟩ = some (.int .i64 y) ∧ wz.cell? ⟨b, o + k * 31 + 3, none⟩ = some (.int .i64 z) ∧ wz.rangeAt b (o + k * 31 + 4) CC) (by kernel_rfl) ?_
              show Go.wpAnyH Try.prog Region.Mode.any _ _ _ _ _ _ w2.drew
              have hbe := HB2.out.drew
              have hP := HG1.out.drew
              have hS := HCC.out _ hbe
              generalize w2.drew = wd at hbe hS hP ⊢
              refine takeH (i := 0) (oi := _) (v := (.slice (some ⟨b, o, none⟩) n c)) (fuel := 32) (some 48) rfl rfl (by kernel_rfl) (by kernel_rfl) (by kernel_rfl) (fun _ _ _ h => h) (.inl ⟨by rfl, fun wz hS => by simp [go_sem]⟩) hS ?_
              simp only [Act.put, List.setIfInBounds_toArray, List.set_cons_zero, List.set_cons_succ]
              refine takeH (i := 1) (oi := _) (v := (.int .i64 (k : Int))) (fuel := 31) (some 49) rfl rfl (by kernel_rfl) (by kernel_rfl) (by kernel_rfl) (fun _ _ _ h => h) (.inl ⟨by rfl, fun wz hS => by simp [go_sem]⟩) hS ?_
              simp only [Act.put, List.setIfInBounds_toArray, List.set_cons_zero, List.set_cons_succ]
              refine takeH (i := 2) (oi := _) (v := (.pointer (some ⟨b, o + k * 31, none⟩))) (fuel := 30) (some 50) rfl rfl (by kernel_rfl) (by kernel_rfl) (by kernel_rfl) (fun _ _ _ h => h) (.inl ⟨by rfl, fun wz hS => by simp [go_sem, hnk]⟩) hS ?_
              simp only [Act.put, List.setIfInBounds_toArray, List.set_cons_zero, List.set_cons_succ]
              refine takeH (i := 3) (oi := _) (v := (.pointer (some ⟨b, o + k * 31, none⟩))) (fuel := 29) (some 51) rfl rfl (by kernel_rfl) (by kernel_rfl) (by kernel_rfl) (fun _ _ _ h => h) (.inl ⟨by rfl, fun wz hS => by simp [go_sem]⟩) hS ?_
              simp only [Act.put, List.setIfInBounds_toArray, List.set_cons_zero, List.set_cons_succ]
              refine takeH (i := 4) (oi := _) (v := (.int .i64 q)) (fuel := 28) (some 52) rfl rfl (by kernel_rfl) (by kernel_rfl) (by kernel_rfl) (fun _ _ _ h => h) (.inl ⟨by rfl, fun wz hS => by simp [go_sem, hS.1]⟩) hS ?_
              simp only [Act.put, List.setIfInBounds_toArray, List.set_cons_zero, List.set_cons_succ]
              refine takeH (i := 5) (oi := _) (v := (.slice (some ⟨b, o, none⟩) n c)) (fuel := 27) (some 53) rfl rfl (by kernel_rfl) (by kernel_rfl) (by kernel_rfl) (fun _ _ _ h => h) (.inl ⟨by rfl, fun wz hS => by simp [go_sem]⟩) hS ?_
              simp only [Act.put, List.setIfInBounds_toArray, List.set_cons_zero, List.set_cons_succ]
              refine takeH (i := 6) (oi := _) (v := (.int .i64 (k : Int))) (fuel := 26) (some 54) rfl rfl (by kernel_rfl) (by kernel_rfl) (by kernel_rfl) (fun _ _ _ h => h) (.inl ⟨by rfl, fun wz hS => by simp [go_sem]⟩) hS ?_
              simp only [Act.put, List.setIfInBounds_toArray, List.set_cons_zero, List.set_cons_succ]
              refine takeH (i := 7) (oi := _) (v := (.pointer (some ⟨b, o + k * 31, none⟩))) (fuel := 25) (some 55) rfl rfl (by kernel_rfl) (by kernel_rfl) (by kernel_rfl) (fun _ _ _ h => h) (.inl ⟨by rfl, fun wz hS => by simp [go_sem, hnk]⟩) hS ?_
              simp only [Act.put, List.setIfInBounds_toArray, List.set_cons_zero, List.set_cons_succ]
              refine takeH (i := 8) (oi := _) (v := (.pointer (some ⟨b, o + k * 31 + 2, none⟩))) (fuel := 24) (some 56) rfl rfl (by kernel_rfl) (by kernel_rfl) (by kernel_rfl) (fun _ _ _ h => h) (.inl ⟨by rfl, fun wz hS => by simp [go_sem]⟩) hS ?_
              simp only [Act.put, List.setIfInBounds_toArray, List.set_cons_zero, List.set_cons_succ]
              refine takeH (i := 9) (oi := _) (v := (.int .i64 y)) (fuel := 23) (some 57) rfl rfl (by kernel_rfl) (by kernel_rfl) (by kernel_rfl) (fun _ _ _ h => h) (.inl ⟨by rfl, fun wz hS => by simp [go_sem, hS.2.2.1]⟩) hS ?_
              simp only [Act.put, List.setIfInBounds_toArray, List.set_cons_zero, List.set_cons_succ]
              refine takeH (i := 10) (oi := _) (v := (.slice (some ⟨b, o, none⟩) n c)) (fuel := 22) (some 58) rfl rfl (by kernel_rfl) (by kernel_rfl) (by kernel_rfl) (fun _ _ _ h => h) (.inl ⟨by rfl, fun wz hS => by simp [go_sem]⟩) hS ?_
              simp only [Act.put, List.setIfInBounds_toArray, List.set_cons_zero, List.set_cons_succ]
              refine takeH (i := 11) (oi := _) (v := (.int .i64 (k : Int))) (fuel := 21) (some 59) rfl rfl (by kernel_rfl) (by kernel_rfl) (by kernel_rfl) (fun _ _ _ h => h) (.inl ⟨by rfl, fun wz hS => by simp [go_sem]⟩) hS ?_
              simp only [Act.put, List.setIfInBounds_toArray, List.set_cons_zero, List.set_cons_succ]
              refine takeH (i := 12) (oi := _) (v := (.pointer (some ⟨b, o + k * 31, none⟩))) (fuel := 20) (some 60) rfl rfl (by kernel_rfl) (by kernel_rfl) (by kernel_rfl) (fun _ _ _ h => h) (.inl ⟨by rfl, fun wz hS => by simp [go_sem, hnk]⟩) hS ?_
              simp only [Act.put, List.setIfInBounds_toArray, List.set_cons_zero, List.set_cons_succ]
              refine takeH (i := 13) (oi := _) (v := (.pointer (some ⟨b, o + k * 31 + 1, none⟩))) (fuel := 19) (some 61) rfl rfl (by kernel_rfl) (by kernel_rfl) (by kernel_rfl) (fun _ _ _ h => h) (.inl ⟨by rfl, fun wz hS => by simp [go_sem]⟩) hS ?_
              simp only [Act.put, List.setIfInBounds_toArray, List.set_cons_zero, List.set_cons_succ]
              refine takeH (i := 14) (oi := _) (v := (.int .i64 x)) (fuel := 18) (some 62) rfl rfl (by kernel_rfl) (by kernel_rfl) (by kernel_rfl) (fun _ _ _ h => h) (.inl ⟨by rfl, fun wz hS => by simp [go_sem, hS.2.1]⟩) hS ?_
              simp only [Act.put, List.setIfInBounds_toArray, List.set_cons_zero, List.set_cons_succ]
              refine takeH (i := 15) (oi := _) (v := (.slice (some ⟨b, o, none⟩) n c)) (fuel := 17) (some 63) rfl rfl (by kernel_rfl) (by kernel_rfl) (by kernel_rfl) (fun _ _ _ h => h) (.inl ⟨by rfl, fun wz hS => by simp [go_sem]⟩) hS ?_
              simp only [Act.put, List.setIfInBounds_toArray, List.set_cons_zero, List.set_cons_succ]
              refine takeH (i := 16) (oi := _) (v := (.int .i64 (k : Int))) (fuel := 16) (some 64) rfl rfl (by kernel_rfl) (by kernel_rfl) (by kernel_rfl) (fun _ _ _ h => h) (.inl ⟨by rfl, fun wz hS => by simp [go_sem]⟩) hS ?_
              simp only [Act.put, List.setIfInBounds_toArray, List.set_cons_zero, List.set_cons_succ]
              refine takeH (i := 17) (oi := _) (v := (.pointer (some ⟨b, o + k * 31, none⟩))) (fuel := 15) (some 65) rfl rfl (by kernel_rfl) (by kernel_rfl) (by kernel_rfl) (fun _ _ _ h => h) (.inl ⟨by rfl, fun wz hS => by simp [go_sem, hnk]⟩) hS ?_
              simp only [Act.put, List.setIfInBounds_toArray, List.set_cons_zero, List.set_cons_succ]
              refine takeH (i := 18) (oi := _) (v := (.pointer (some ⟨b, o + k * 31 + 4, none⟩))) (fuel := 14) (some 66) rfl rfl (by kernel_rfl) (by kernel_rfl) (by kernel_rfl) (fun _ _ _ h => h) (.inl ⟨by rfl, fun wz hS => by simp [go_sem]⟩) hS ?_
              simp only [Act.put, List.setIfInBounds_toArray, List.set_cons_zero, List.set_cons_succ]
              refine takeH (i := 19) (oi := _) (v := (.agg CC.toArray)) (fuel := 13) (some 67) rfl rfl (by kernel_rfl) (by kernel_rfl) (by kernel_rfl) (fun _ _ _ h => h) (.inl ⟨by rfl, fun wz hS => exec_load 30 (.tmp 66) rfl b (o + k * 31 + 4) rfl CC _ hS.2.2.2.2 huc rfl (by rw [HCL.out]; exact info_card)⟩) hS ?_
              simp only [Act.put, List.setIfInBounds_toArray, List.set_cons_zero, List.set_cons_succ]
              refine takeH (i := 20) (oi := _) (v := (.slice (some ⟨b, o, none⟩) n c)) (fuel := 12) (some 68) rfl rfl (by kernel_rfl) (by kernel_rfl) (by kernel_rfl) (fun _ _ _ h => h) (.inl ⟨by rfl, fun wz hS => by simp [go_sem]⟩) hS ?_
              simp only [Act.put, List.setIfInBounds_toArray, List.set_cons_zero, List.set_cons_succ]
              refine takeH (i := 21) (oi := _) (v := (.int .i64 (k : Int))) (fuel := 11) (some 69) rfl rfl (by kernel_rfl) (by kernel_rfl) (by kernel_rfl) (fun _ _ _ h => h) (.inl ⟨by rfl, fun wz hS => by simp [go_sem]⟩) hS ?_
              simp only [Act.put, List.setIfInBounds_toArray, List.set_cons_zero, List.set_cons_succ]
              refine takeH (i := 22) (oi := _) (v := (.pointer (some ⟨b, o + k * 31, none⟩))) (fuel := 10) (some 70) rfl rfl (by kernel_rfl) (by kernel_rfl) (by kernel_rfl) (fun _ _ _ h => h) (.inl ⟨by rfl, fun wz hS => by simp [go_sem, hnk]⟩) hS ?_
              simp only [Act.put, List.setIfInBounds_toArray, List.set_cons_zero, List.set_cons_succ]
              refine takeH (i := 23) (oi := _) (v := (.pointer (some ⟨b, o + k * 31 + 3, none⟩))) (fuel := 9) (some 71) rfl rfl (by kernel_rfl) (by kernel_rfl) (by kernel_rfl) (fun _ _ _ h => h) (.inl ⟨by rfl, fun wz hS => by simp [go_sem]⟩) hS ?_
              simp only [Act.put, List.setIfInBounds_toArray, List.set_cons_zero, List.set_cons_succ]
              refine takeH (i := 24) (oi := _) (v := (.int .i64 z)) (fuel := 8) (some 72) rfl rfl (by kernel_rfl) (by kernel_rfl) (by kernel_rfl) (fun _ _ _ h => h) (.inl ⟨by rfl, fun wz hS => by simp [go_sem, hS.2.2.2.1]⟩) hS ?_
              simp only [Act.put, List.setIfInBounds_toArray, List.set_cons_zero, List.set_cons_succ]
              refine takeH (i := 25) (oi := _) (v := (.bool false)) (fuel := 7) (some 73) rfl rfl (by kernel_rfl) (by kernel_rfl) (by kernel_rfl) (fun _ _ _ h => h) (.inl ⟨by rfl, fun wz hS => by simp [go_sem, dz]⟩) hS ?_
              simp only [Act.put, List.setIfInBounds_toArray, List.set_cons_zero, List.set_cons_succ]
              refine wpAnyH_all (fuel := 6) (rs := [26, 30]) (by kernel_rfl) (by simp) (fun i hi => ?_)
              simp only [List.mem_cons, List.not_mem_nil, or_false] at hi
              rcases hi with rfl | rfl
              · refine callH (some 74) _ rfl rfl 10 #[.int .i64 q, .int .i64 y, .int .i64 x, .agg CC.toArray, .bool false] (by simp [go_sem]) (by rfl) ((HP2.out _).mono ?_)
                rintro e w5 ⟨rfl, hb⟩
                replace hP := hP.later hb
                replace hbe := hbe.trans (hb.mono hbe.size)
                clear hb hS
                have hS := HCC.out _ hbe
                refine ⟨_, rfl, hS, ?_⟩
                simp only [Act.put, List.setIfInBounds_toArray, List.set_cons_zero, List.set_cons_succ]
                refine takeH (i := 27) (oi := _) (v := (.tuple #[.agg TT.toArray, .bool s])) (fuel := 5) (some 47) rfl rfl (by kernel_rfl) (by kernel_rfl) (by kernel_rfl) (fun _ _ _ h => h) (.inl ⟨by rfl, fun wz hS => by simp [go_sem]⟩) hS ?_
                simp only [Act.put, List.setIfInBounds_toArray, List.set_cons_zero, List.set_cons_succ]
                refine takeH (i := 28) (oi := _) (v := (.agg TT.toArray)) (fuel := 4) (some 75) rfl rfl (by kernel_rfl) (by kernel_rfl) (by kernel_rfl) (fun _ _ _ h => h) (.inl ⟨by rfl, fun wz hS => by simp [go_sem]⟩) hS ?_
                simp only [Act.put, List.setIfInBounds_toArray, List.set_cons_zero, List.set_cons_succ]
                refine takeH (i := 29) (oi := _) (v := (.bool s)) (fuel := 3) (some 76) rfl rfl (by kernel_rfl) (by kernel_rfl) (by kernel_rfl) (fun _ _ _ h => h) (.inl ⟨by rfl, fun wz hS => by simp [go_sem]⟩) hS ?_
                simp only [Act.put, List.setIfInBounds_toArray, List.set_cons_zero, List.set_cons_succ]
                refine allH [30] 30 (fuel := 2) (by kernel_rfl) ?_
                refine allocT (some 6) _ rfl rfl rfl (by rfl) _ (HRUNT.out _) ?_
                have hb := (Below.refl _ w5).alloc (Nat.le_refl w5.heap.size) (.cells Z.toArray 32)
                have hz := Blk.new w5 Z 32
                have hgz := hbe.size
                have hlt_hP := hP.lt
                replace hP := hP.later hb
                replace hbe := hbe.trans (hb.mono hbe.size)
                clear hb hS
                have hS := HCC.out _ hbe
                refine ⟨hS, ?_⟩
                simp only [Act.put, List.setIfInBounds_toArray, List.set_cons_zero, List.set_cons_succ]
                generalize hWz : w5.alloc (.cells Z.toArray 32) = wz at hz hbe hS hP ⊢
                generalize w5.heap.size = G at hz hgz hlt_hP ⊢
                clear hWz
                refine allH [31] 31 (fuel := 1) (by kernel_rfl) ?_
                have TH := hz.there 0 31 (by rw [HZL.out]; omega)
                refine storeH _ rfl rfl (by rfl) 32 (.tmp 6) (.tmp 75) rfl G 0 TT.toArray rfl rfl (by simpa [HTL.out] using TH) (by simpa [HTL.out] using info_turn) (all_oneCell_toArray HT1.out) ?_
                rw [show wz.setCells G 0 TT.toArray.toList = wz.setCells G 0 TT from rfl]
                have hzd := hz.whole (ds := TT) (by rw [HTL.out, HZL.out])
                have hPz := hP.setsOther (b := G) (by omega) TT 0
                replace hbe := below_sets hgz TT 0 hbe
                clear hS
                have hS := HCC.out _ hbe
                refine ⟨hS, ?_⟩
                generalize wz.setCells G 0 TT = wy at hzd hbe hS hPz ⊢
                refine takeH (i := 32) (oi := _) (v := (.bool s)) (fuel := 0) (some 7) rfl rfl (by kernel_rfl) (by kernel_rfl) (by kernel_rfl) (fun _ _ _ h => h) (.inl ⟨by rfl, fun wz hS => by simp [go_sem]⟩) hS ?_
                simp only [Act.put, List.setIfInBounds_toArray, List.set_cons_zero, List.set_cons_succ]
                refine wpAnyH_done (by kernel_rfl) ?_ _
                exact REST G wy ⟨hzd, hbe, hPz⟩
              · refine allocT (some 6) _ rfl rfl rfl (by rfl) _ (HRUNT.out _) ?_
                have hb := (Below.refl _ wd).alloc (Nat.le_refl wd.heap.size) (.cells Z.toArray 32)
                have hz := Blk.new wd Z 32
                have hgz := hbe.size
                have hlt_hP := hP.lt
                replace hP := hP.later hb
                replace hbe := hbe.trans (hb.mono hbe.size)
                clear hb hS
                have hS := HCC.out _ hbe
                refine ⟨hS, ?_⟩
                simp only [Act.put, List.setIfInBounds_toArray, List.set_cons_zero, List.set_cons_succ]
                generalize hWz : wd.alloc (.cells Z.toArray 32) = wz at hz hbe hS hP ⊢
                generalize wd.heap.size = G at hz hgz hlt_hP ⊢
                clear hWz
                refine allH [26] 26 (fuel := 5) (by kernel_rfl) ?_
                refine callH (some 74) _ rfl rfl 10 #[.int .i64 q, .int .i64 y, .int .i64 x, .agg CC.toArray, .bool false] (by simp [go_sem]) (by rfl) ((HP2.out _).mono ?_)
                rintro e w6 ⟨rfl, hb⟩
                replace hP := hP.later hb
                replace hz := hz.later hb
                replace hbe := hbe.trans (hb.mono hbe.size)
                clear hb hS
                have hS := HCC.out _ hbe
                refine ⟨_, rfl, hS, ?_⟩
                simp only [Act.put, List.setIfInBounds_toArray, List.set_cons_zero, List.set_cons_succ]
                refine takeH (i := 27) (oi := _) (v := (.tuple #[.agg TT.toArray, .bool s])) (fuel := 4) (some 47) rfl rfl (by kernel_rfl) (by kernel_rfl) (by kernel_rfl) (fun _ _ _ h => h) (.inl ⟨by rfl, fun wz hS => by simp [go_sem]⟩) hS ?_
                simp only [Act.put, List.setIfInBounds_toArray, List.set_cons_zero, List.set_cons_succ]
                refine takeH (i := 28) (oi := _) (v := (.agg TT.toArray)) (fuel := 3) (some 75) rfl rfl (by kernel_rfl) (by kernel_rfl) (by kernel_rfl) (fun _ _ _ h => h) (.inl ⟨by rfl, fun wz hS => by simp [go_sem]⟩) hS ?_
                simp only [Act.put, List.setIfInBounds_toArray, List.set_cons_zero, List.set_cons_succ]
                refine takeH (i := 29) (oi := _) (v := (.bool s)) (fuel := 2) (some 76) rfl rfl (by kernel_rfl) (by kernel_rfl) (by kernel_rfl) (fun _ _ _ h => h) (.inl ⟨by rfl, fun wz hS => by simp [go_sem]⟩) hS ?_
                simp only [Act.put, List.setIfInBounds_toArray, List.set_cons_zero, List.set_cons_succ]
                refine allH [31] 31 (fuel := 1) (by kernel_rfl) ?_
                have TH := hz.there 0 31 (by rw [HZL.out]; omega)
                refine storeH _ rfl rfl (by rfl) 32 (.tmp 6) (.tmp 75) rfl G 0 TT.toArray rfl rfl (by simpa [HTL.out] using TH) (by simpa [HTL.out] using info_turn) (all_oneCell_toArray HT1.out) ?_
                rw [show w6.setCells G 0 TT.toArray.toList = w6.setCells G 0 TT from rfl]
                have hzd := hz.whole (ds := TT) (by rw [HTL.out, HZL.out])
                have hPz := hP.setsOther (b := G) (by omega) TT 0
                replace hbe := below_sets hgz TT 0 hbe
                clear hS
                have hS := HCC.out _ hbe
                refine ⟨hS, ?_⟩
                generalize w6.setCells G 0 TT = wy at hzd hbe hS hPz ⊢
                refine takeH (i := 32) (oi := _) (v := (.bool s)) (fuel := 0) (some 7) rfl rfl (by kernel_rfl) (by kernel_rfl) (by kernel_rfl) (fun _ _ _ h => h) (.inl ⟨by rfl, fun wz hS => by simp [go_sem]⟩) hS ?_
                simp only [Act.put, List.setIfInBounds_toArray, List.set_cons_zero, List.set_cons_succ]
                refine wpAnyH_done (by kernel_rfl) ?_ _
                exact REST G wy ⟨hzd, hbe, hPz⟩
            · rintro G3 w3 ⟨hG3, hb3, hG1⟩
              have HBF := Lib.hid hb3
              have RG1 := hG1.wholeC
              have RG2 := hG3.wholeC
              clear hb3 hG1 hG3 HP2
              have g9 : (s != s) = false := by cases s <;> rfl
              go_wp2_with (first
                | (refine wpList_load_mid rfl 32 (.tmp 4) rfl G1 0 rfl TT _ RG1 hu rfl (by rw [HTL.out]; exact info_turn) ?_
                   simp only [Act.put, List.setIfInBounds_toArray, List.set_cons_zero, List.set_cons_succ])
                | (refine wpList_load_mid rfl 32 (.tmp 6) rfl G3 0 rfl TT _ RG2 hu rfl (by rw [HTL.out]; exact info_turn) ?_
                   simp only [Act.put, List.setIfInBounds_toArray, List.set_cons_zero, List.set_cons_succ])
                | (refine wpList_exec (by rfl) (.bool (!true)) (exec_neq 32 _ (.tmp 77) (.tmp 78) rfl _ _ rfl rfl guard_turn true (HEQ.out _)) ?_
                   simp only [Act.put, List.setIfInBounds_toArray, List.set_cons_zero, List.set_cons_succ, Bool.not_true])
                | fail)
              go_roundw
              case rel => exact ⟨k + 1, by omega, by go_num, HBF⟩
              case measure => simp [iOf]; omega
      · obtain rfl : k = n := by omega
        clear HOF HROF HOK HCLN HCE HZZ HZL HB1
        cases hgo : goes l with
        | false =>
          rw [hgo] at HG HRG
          clear HNT HRN hgo HNO HNL
          go_wp2_with fail
          refine (HG.out _ HB.out).mono ?_
          rintro e w2 ⟨rfl, hb2⟩
          have HB2 := Lib.hid (HB.out.trans (hb2.mono HB.out.size))
          clear hb2
          go_wp2_with fail
          refine (HRG.out _ HB2.out).mono ?_
          rintro e w3 ⟨rfl, hb3⟩
          have HB3 := Lib.hid (HB2.out.trans (hb3.mono HB2.out.size))
          clear hb3
          go_wp2_with fail
          refine (HRG.out _ HB3.out).mono ?_
          rintro e w4 ⟨rfl, hb4⟩
          have HB4 := Lib.hid (HB3.out.trans (hb4.mono HB3.out.size))
          clear hb4
          go_wp2_with fail
          refine (HAW.out _).mono ?_
          rintro e w5 ⟨rfl, hb5⟩
          have HB5 := Lib.hid (HB4.out.trans (hb5.mono HB4.out.size))
          clear hb5
          go_wp2_with fail
          go_ret
          exact ⟨rfl, HB5.out⟩
        | true =>
          have HNT2 := Lib.hid (HNT.out hgo)
          have HRN2 := Lib.hid (HRN.out hgo)
          rw [hgo] at HG HRG
          clear HNT HRN hgo
          generalize net l = L at HNT2 HRN2 HNO HNL
          go_wp2_with fail
          refine (HG.out _ HB.out).mono ?_
          rintro e w2 ⟨rfl, hb2⟩
          have HB2 := Lib.hid (HB.out.trans (hb2.mono HB.out.size))
          clear hb2
          go_wp2_with fail
          refine (HRG.out _ HB2.out).mono ?_
          rintro e w3 ⟨rfl, hb3⟩
          have HB3 := Lib.hid (HB2.out.trans (hb3.mono HB2.out.size))
          clear hb3
          go_wp2_with fail
          refine (HRG.out _ HB3.out).mono ?_
          rintro e w4 ⟨rfl, hb4⟩
          have HB4 := Lib.hid (HB3.out.trans (hb4.mono HB3.out.size))
          clear hb4 HG HRG
          go_wp2_with fail
          refine (HNT2.out _ HB4.out).mono ?_
          rintro e w5 ⟨A5, c5, rfl, hs5, hb5⟩
          have HB5 := Lib.hid (HB4.out.trans (hb5.mono HB4.out.size))
          have HS5 := Lib.hid hs5
          clear hb5 hs5
          generalize hm : L.length = m at HNL HS5
          have HM := Lib.hid hm
          clear hm
          go_wp2_with fail
          refine (HRN2.out _ HB5.out).mono ?_
          rintro e w6 ⟨A6, c6, rfl, hs6, hb6⟩
          rw [HM.out] at hs6
          rw [HM.out]
          have HB6 := Lib.hid (HB5.out.trans (hb6.mono HB5.out.size))
          have HS6 := Lib.hid hs6
          have HS5b := Lib.hid (HS5.out.later hb6)
          clear hb6 hs6
          go_wp2_with fail
          refine (samei_any A5 A6 m c5 m c6 L L _ HS5b.out HS6.out (by have := HNL.out; omega) (by have := HNL.out; omega) HNO.out HNO.out).mono ?_
          rintro e w7 ⟨rfl, hb7⟩
          have HB7 := Lib.hid (HB6.out.trans (hb7.mono HB6.out.size))
          clear hb7 HS5 HS6 HS5b
          rw [decide_eq_true (rfl : L = L)]
          go_wp2_with fail
          refine (HNT2.out _ HB7.out).mono ?_
          rintro e w8 ⟨A8, c8, rfl, hs8, hb8⟩
          rw [HM.out] at hs8
          rw [HM.out]
          have HB8 := Lib.hid (HB7.out.trans (hb8.mono HB7.out.size))
          have HS8 := Lib.hid hs8
          clear hb8 hs8
          go_wp2_with fail
          refine (HRN2.out _ HB8.out).mono ?_
          rintro e w9 ⟨A9, c9, rfl, hs9, hb9⟩
          rw [HM.out] at hs9
          rw [HM.out]
          have HB9 := Lib.hid (HB8.out.trans (hb9.mono HB8.out.size))
          have HS9 := Lib.hid hs9
          have HS8b := Lib.hid (HS8.out.later hb9)
          clear hb9 hs9
          go_wp2_with fail
          refine (rsamei_any A8 A9 m c8 m c9 L L _ HS8b.out.len HS9.out.len (by have := HNL.out; omega) (by have := HNL.out; omega) HNO.out HNO.out HS8b.out.see HS9.out.see).mono ?_
          rintro e w10 ⟨rfl, hb10⟩
          have HB10 := Lib.hid (HB9.out.trans (hb10.mono HB9.out.size))
          clear hb10 HS8 HS9 HS8b
          rw [decide_eq_true (rfl : L = L)]
          go_wp2_with fail
          refine (HAW.out _).mono ?_
          rintro e w11 ⟨rfl, hb11⟩
          have HB11 := Lib.hid (HB10.out.trans (hb11.mono HB10.out.size))
          clear hb11
          go_wp2_with fail
          go_ret
          exact ⟨rfl, HB11.out⟩
end Go.Proofs.Ytepefocpeeihdaa
