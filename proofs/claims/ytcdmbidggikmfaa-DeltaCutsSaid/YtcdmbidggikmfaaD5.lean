/- Which turns go on: the document's Check. -/
import Derived.Test.YtcdmbidggikmfaaD4
namespace Go.Proofs.Ytcdmbidggikmfaa
set_option linter.unusedVariables false
set_option linter.unusedSimpArgs false
open Go Go.RowKit BitM

theorem go_next {l : List Tn} {k : Nat} (hk : k < l.length) (h : goTo l k = true) (h1 : tmay l[k] = true) (h2 : k = 0 ∨ sqAt l k < l[k].sq) (h3 : ∀ u, lastT (l.take k) l[k].id = some u → u.nw = l[k].old) : goTo l (k + 1) = true := by
  rw [goTo_succ, h, goAt_here hk, h1, decide_eq_true h2]
  cases hl : lastT (l.take k) l[k].id with
  | none => rfl
  | some u => simp [h3 u hl]
theorem no_may {l : List Tn} {k : Nat} (hk : k < l.length) (h : tmay l[k] = false) : goes l = false := goes_no hk (by rw [goAt_here hk, h]; rfl)
theorem no_seq {l : List Tn} {m : Nat} (hk : m + 1 < l.length) (h : l[m + 1].sq ≤ l[m].sq) : goes l = false := goes_no hk (by
  rw [goAt_here hk, decide_eq_false (by
    rintro (e | e)
    · omega
    · unfold sqAt at e
      simp only [List.getElem?_eq_getElem (show m < l.length by omega), Option.map_some, Option.getD_some] at e
      omega), Bool.and_false, Bool.false_and])
theorem no_old {l : List Tn} {k : Nat} (hk : k < l.length) {u : Tn} (h : lastT (l.take k) l[k].id = some u) (h2 : u.nw ≠ l[k].old) : goes l = false := goes_no hk (by
  rw [goAt_here hk, h]
  simp [h2])
theorem sq_prev {l : List Tn} {m : Nat} (hk : m + 1 < l.length) (h : l[m].sq < l[m + 1].sq) : sqAt l (m + 1) < l[m + 1].sq := by
  unfold sqAt
  simp only [List.getElem?_eq_getElem (show m < l.length by omega), Option.map_some, Option.getD_some]
  exact h
set_option maxRecDepth 100000 in
set_option maxHeartbeats 6400000 in
theorem rgoes_any (A : Option Addr) (n c : Nat) (l : List Tn) (w : World) (h : SeesR tcl w A n c l) (hok : ∀ t ∈ l, okCd t.cd) (hz : n ≤ 65536) :
    Calls Try.prog 7 #[.slice A n c] w fun e w' => e = .returned (.bool (goes l)) ∧ Below w.heap.size w w' := by
  have hu := Try.underlying51
  have HS := Lib.hid h
  have HN := Lib.hid h.len
  obtain ⟨R, hR⟩ : ∃ R, R = goes l := ⟨_, rfl⟩
  rw [← hR]
  have HF0 := Lib.hid (fun k (hk : k < l.length) (e : tmay l[k] = false) => show R = false by rw [hR]; exact no_may hk e)
  have HF1 := Lib.hid (fun m (hk : m + 1 < l.length) (e : l[m + 1].sq ≤ l[m].sq) => show R = false by rw [hR]; exact no_seq hk e)
  have HF2 := Lib.hid (fun k (hk : k < l.length) u (e : lastT (l.take k) l[k].id = some u) (e2 : u.nw ≠ l[k].old) => show R = false by rw [hR]; exact no_old hk e e2)
  have HALL := Lib.hid (fun (e : goTo l l.length = true) => show R = true by rw [hR]; exact e)
  have HTU := Lib.hid (fun k (hk : k < l.length) wx => rturn_any l[k] wx (hok _ (List.getElem_mem hk)))
  have HTL := Lib.hid (fun k (hk : k < l.length) => tcl_len (hok _ (List.getElem_mem hk)))
  have HCE : Hid (∀ k, k < l.length → ∃ b o, A = some ⟨b, o, none⟩ ∧ ∀ W, Below w.heap.size w W → ∀ k (hk : k < l.length), W.cell? ⟨b, o + k * 31, none⟩ = some (.int .i64 l[k].sq) ∧ W.cell? ⟨b, o + k * 31 + 1, none⟩ = some (.int .i64 l[k].id) ∧
      W.cell? ⟨b, o + k * 31 + 2, none⟩ = some (.int .i64 l[k].old) ∧ W.cell? ⟨b, o + k * 31 + 3, none⟩ = some (.int .i64 l[k].nw) ∧ W.rangeAt b (o + k * 31) (tcl l[k])) := Lib.hid (fun k hk => by
    obtain ⟨b, o, e, _, hc⟩ := turn_cells h hok (by omega)
    exact ⟨b, o, e, fun W hW k hk => ⟨(hc W hW k hk).1, (hc W hW k hk).2.1, (hc W hW k hk).2.2.1, (hc W hW k hk).2.2.2.1, (hc W hW k hk).2.2.2.2.1⟩⟩)
  clear hR h
  go_enter Try.func7, Try.ntmps7
  go_wp2_with fail
  go_loopw [3] (fun i wr => ∃ k : Nat, k ≤ n ∧ i = .int .i64 (k : Int) ∧ Hid (goTo l k = true) ∧ Hid (Below w.heap.size w wr)) (fun i _ => n - (iOf i).toNat)
  case atStart => exact ⟨0, by omega, rfl, Lib.hid rfl, Lib.hid (Below.refl _ _)⟩
  case round =>
    obtain ⟨k, hk, rfl, HK, HB⟩ := hrel
    by_cases hlt : k < n
    · have d0 : decide ((k : Int) < (n : Int)) = true := decide_eq_true (by omega)
      have hkl : k < l.length := by rw [HN.out]; exact hlt
      obtain ⟨b, o, rfl, hcc⟩ := HCE.out k hkl
      have HCC := Lib.hid hcc
      have HNEXT : Hid (tmay l[k] = true → (k = 0 ∨ sqAt l k < l[k].sq) → (∀ u, lastT (l.take k) l[k].id = some u → u.nw = l[k].old) → goTo l (k + 1) = true) := Lib.hid (go_next hkl HK.out)
      have HNM := Lib.hid (HF0.out k hkl)
      have HNO := Lib.hid (HF2.out k hkl)
      have HNS : Hid (∀ m (hm : k = m + 1), l[k].sq ≤ (l[m]'(by omega)).sq → R = false) := Lib.hid (fun m hm e => by subst hm; exact HF1.out m hkl e)
      have HSQ : Hid (∀ m (hm : k = m + 1), (l[m]'(by omega)).sq < l[k].sq → sqAt l k < l[k].sq) := Lib.hid (fun m hm e => by subst hm; exact sq_prev hkl e)
      have HT := Lib.hid (HTU.out k hkl)
      have HTT := Lib.hid (HTL.out k hkl)
      have HBW : Hid (∀ W, Le wr W → Below w.heap.size w W) := Lib.hid (fun W hl => HB.out.trans (hl.mono HB.out.size))
      have HRG := Lib.hid (fun W hW => (hcc W hW k hkl).2.2.2.2)
      have cq : ∀ kk : LW wr, kk.val.cell? ⟨b, o + k * 31, none⟩ = some (.int .i64 l[k].sq) := fun kk => (HCC.out _ (HBW.out _ kk.le) k hkl).1
      obtain ⟨TT, hTT⟩ : ∃ TT, TT = tcl l[k] := ⟨_, rfl⟩
      rw [← hTT] at HT HTT HRG
      have HX : Hid (∃ x, x = l[k].id) := Lib.hid ⟨_, rfl⟩
      obtain ⟨q, hq⟩ : ∃ q, q = l[k].sq := ⟨_, rfl⟩
      rw [← hq] at cq HNEXT HNS HSQ
      obtain ⟨tm, htm⟩ : ∃ tm, tm = tmay l[k] := ⟨_, rfl⟩
      rw [← htm] at HT HNEXT HNM
      clear hcc hTT hq htm HF0 HF1 HF2 HTU HTL HALL HS HX
      cases tm with
      | false =>
        have HR := Lib.hid (HNM.out rfl)
        go_wp2_with fail
        refine wp_region_steady [] 63 (by kernel_rfl) (by kernel_rfl) (by kernel_rfl) (by rfl) ?_
        iterate 3 (refine wpG_quiet (by rfl) (by rfl) (by rfl) (fun K hK => ?_); go_big_quiet_op; refine hK _ ?_; clear hK K)
        refine wpG_run (by rfl) (by rfl) (.agg TT.toArray) (fun wx hl => exec_load 51 (.tmp 13) rfl b (o + k * 31) rfl TT _ (HRG.out wx (HBW.out wx hl.1)) hu rfl (by rw [HTT.out]; exact info_turn)) ?_
        simp only [Act.put, List.setIfInBounds_toArray, List.set_cons_zero, List.set_cons_succ]
        refine wpG_call (by rfl) (by rfl) 20 #[.agg TT.toArray] (.bool false) (by intro _; simp [go_sem]) (by kernel_rfl) (fun wx hl => HT.out wx) ?_
        simp only [Act.put, List.setIfInBounds_toArray, List.set_cons_zero, List.set_cons_succ]
        iterate 2 (refine wpG_quiet (by rfl) (by rfl) (by rfl) (fun K hK => ?_); go_big_quiet_op; refine hK _ ?_; clear hK K)
        iterate 16 (refine wpG_skip (by rfl) ?_; simp only [Act.put, List.setIfInBounds_toArray, List.set_cons_zero, List.set_cons_succ])
        iterate 1 (refine wpG_quiet (by rfl) (by rfl) (by rfl) (fun K hK => ?_); go_big_quiet_op; refine hK _ ?_; clear hK K)
        refine wpG_nil fun w1 hl _ => ?_
        have HB1 := Lib.hid (HBW.out w1 hl)
        clear HBW
        go_wp2_with fail
        go_ret
        exact ⟨by rw [HR.out]; rfl, HB1.out⟩
      | true =>
        by_cases h0 : k = 0
        · have d1 : decide ((0 : Int) < (k : Int)) = false := decide_eq_false (by omega)
          have d1' : decide (0 < k) = false := decide_eq_false (by omega)
          have H0 := Lib.hid h0
          clear h0
          go_wp2_with fail
          refine wp_region_steady [] 63 (by kernel_rfl) (by kernel_rfl) (by kernel_rfl) (by rfl) ?_
          iterate 3 (refine wpG_quiet (by rfl) (by rfl) (by rfl) (fun K hK => ?_); go_big_quiet_op; refine hK _ ?_; clear hK K)
          refine wpG_run (by rfl) (by rfl) (.agg TT.toArray) (fun wx hl => exec_load 51 (.tmp 13) rfl b (o + k * 31) rfl TT _ (HRG.out wx (HBW.out wx hl.1)) hu rfl (by rw [HTT.out]; exact info_turn)) ?_
          simp only [Act.put, List.setIfInBounds_toArray, List.set_cons_zero, List.set_cons_succ]
          refine wpG_call (by rfl) (by rfl) 20 #[.agg TT.toArray] (.bool true) (by intro _; simp [go_sem]) (by kernel_rfl) (fun wx hl => HT.out wx) ?_
          simp only [Act.put, List.setIfInBounds_toArray, List.set_cons_zero, List.set_cons_succ]
          iterate 5 (refine wpG_quiet (by rfl) (by rfl) (by rfl) (fun K hK => ?_); go_big_quiet_op; refine hK _ ?_; clear hK K)
          iterate 12 (refine wpG_skip (by rfl) ?_; simp only [Act.put, List.setIfInBounds_toArray, List.set_cons_zero, List.set_cons_succ])
          iterate 2 (refine wpG_quiet (by rfl) (by rfl) (by rfl) (fun K hK => ?_); go_big_quiet_op; refine hK _ ?_; clear hK K)
          refine wpG_nil fun w1 hl _ => ?_
          have HB1 := Lib.hid (HBW.out w1 hl)
          clear HBW
          have HSTEP : Hid ((∀ u, lastT (l.take k) l[k].id = some u → u.nw = l[k].old) → goTo l (k + 1) = true) := Lib.hid (HNEXT.out (by trivial) (.inl H0.out))
          have HBC : Hid (∀ W, Below w.heap.size w W → ∀ j (hj : j < l.length), W.cell? ⟨b, o + j * 31 + 1, none⟩ = some (.int .i64 l[j].id) ∧ W.cell? ⟨b, o + j * 31 + 2, none⟩ = some (.int .i64 l[j].old) ∧ W.cell? ⟨b, o + j * 31 + 3, none⟩ = some (.int .i64 l[j].nw)) := Lib.hid (fun W hW j hj => ⟨(HCC.out W hW j hj).2.1, (HCC.out W hW j hj).2.2.1, (HCC.out W hW j hj).2.2.2.1⟩)
          have HIK : Hid (∀ W, Below w.heap.size w W → W.cell? ⟨b, o + k * 31 + 1, none⟩ = some (.int .i64 l[k].id) ∧ W.cell? ⟨b, o + k * 31 + 2, none⟩ = some (.int .i64 l[k].old)) := Lib.hid (fun W hW => ⟨(HBC.out W hW k hkl).1, (HBC.out W hW k hkl).2.1⟩)
          generalize l[k].id = x at HSTEP HNO HIK
          generalize l[k].old = y at HSTEP HNO HIK
          clear HNEXT HNS HSQ HT HTT HRG HCC HCE HNM cq d1 d1'
          go_wp2_with fail
          go_loopw [4] (fun v wr => ∃ j : Nat, j ≤ k ∧ v = .int .i64 ((j : Int) - 1) ∧ Hid (lastT (l.take k) x = lastT (l.take j) x) ∧ Hid (Below w.heap.size w wr)) (fun v _ => (iOf v + 1).toNat)
          case atStart => exact ⟨k, by omega, rfl, Lib.hid rfl, HB1⟩
          case round =>
            obtain ⟨j, hj, rfl, HLJ, HBJ⟩ := hrel
            cases j with
            | zero =>
              have HG := Lib.hid (HSTEP.out (fun u hu => by rw [HLJ.out] at hu; cases hu))
              rw [show ((0 : Nat) : Int) - 1 = -1 by rfl]
              clear HSTEP HNO HBC HIK HLJ
              go_wp2_with fail
              go_roundw
              case rel => exact ⟨k + 1, by omega, by go_num, HG, HBJ⟩
              case measure => simp [iOf]; omega
            | succ m =>
              rw [show ((m + 1 : Nat) : Int) - 1 = (m : Int) by omega]
              have dm : decide (0 ≤ (m : Int)) = true := decide_eq_true (by omega)
              have hml : m < l.length := by omega
              have hmn : m < n := by omega
              have HBW : Hid (∀ W, Le wr W → Below w.heap.size w W) := Lib.hid (fun W hl => HBJ.out.trans (hl.mono HBJ.out.size))
              have ca : ∀ kk : LW wr, kk.val.cell? ⟨b, o + m * 31 + 1, none⟩ = some (.int .i64 l[m].id) := fun kk => (HBC.out _ (HBW.out _ kk.le) m hml).1
              have cb : ∀ kk : LW wr, kk.val.cell? ⟨b, o + k * 31 + 1, none⟩ = some (.int .i64 x) := fun kk => (HIK.out _ (HBW.out _ kk.le)).1
              have HLB : Hid (lastT (l.take (m + 1)) x = if l[m].id = x then some l[m] else lastT (l.take m) x) := Lib.hid (last_back hml x)
              have HNW : Hid (∀ W, Below w.heap.size w W → W.cell? ⟨b, o + m * 31 + 3, none⟩ = some (.int .i64 l[m].nw)) := Lib.hid (fun W hW => (HBC.out W hW m hml).2.2)
              have HNOM : Hid (l[m].id = x → l[m].nw ≠ y → R = false) := Lib.hid (fun e1 e2 => HNO.out l[m] (by rw [HLJ.out, HLB.out, if_pos e1]) e2)
              have HOKM : Hid (l[m].id = x → l[m].nw = y → goTo l (k + 1) = true) := Lib.hid (fun e1 e2 => HSTEP.out (fun u hu => by
                rw [HLJ.out, HLB.out, if_pos e1] at hu
                cases hu
                exact e2))
              have HGO : Hid (l[m].id ≠ x → lastT (l.take k) x = lastT (l.take m) x) := Lib.hid (fun e1 => by rw [HLJ.out, HLB.out, if_neg e1])
              generalize l[m].id = xm at ca HNOM HOKM HGO
              generalize l[m].nw = ym at HNW HNOM HOKM
              clear HSTEP HNO HBC HLB HLJ
              by_cases hx : xm = x
              · have dx : decide (xm = x) = true := decide_eq_true hx
                have dx' : (xm == x) = true := by simpa using hx
                have HNOM2 := Lib.hid (HNOM.out hx)
                have HOKM2 := Lib.hid (HOKM.out hx)
                clear HNOM HOKM HGO hx
                go_wp2_with fail
                refine wp_region_steady [] 63 (by kernel_rfl) (by kernel_rfl) (by kernel_rfl) (by rfl) ?_
                iterate 11 (refine wpG_quiet (by rfl) (by rfl) (by rfl) (fun K hK => ?_); go_big_quiet_op; refine hK _ ?_; clear hK K)
                refine wpG_nil fun w2 hl _ => ?_
                have HB2 := Lib.hid (HBW.out w2 hl)
                have HBW2 : Hid (∀ W, Le w2 W → Below w.heap.size w W) := Lib.hid (fun W hl => HB2.out.trans (hl.mono HB2.out.size))
                have cc : ∀ kk : LW w2, kk.val.cell? ⟨b, o + m * 31 + 3, none⟩ = some (.int .i64 ym) := fun kk => HNW.out _ (HBW2.out _ kk.le)
                have cd : ∀ kk : LW w2, kk.val.cell? ⟨b, o + k * 31 + 2, none⟩ = some (.int .i64 y) := fun kk => (HIK.out _ (HBW2.out _ kk.le)).2
                clear HBW ca cb HIK HNW hl
                by_cases hy : ym = y
                · have dy : decide (ym = y) = true := decide_eq_true hy
                  have dy' : (ym != y) = false := by simpa using hy
                  have HG := Lib.hid (HOKM2.out hy)
                  clear hy
                  go_wp2_with fail
                  refine wp_region_steady [] 63 (by kernel_rfl) (by kernel_rfl) (by kernel_rfl) (by rfl) ?_
                  iterate 11 (refine wpG_quiet (by rfl) (by rfl) (by rfl) (fun K hK => ?_); go_big_quiet_op; refine hK _ ?_; clear hK K)
                  refine wpG_nil fun w3 hl _ => ?_
                  have HB3 := Lib.hid (HBW2.out w3 hl)
                  clear HBW2
                  go_wp2_with fail
                  go_roundw
                  case rel => exact ⟨k + 1, by omega, by go_num, HG, HB3⟩
                  case measure => simp [iOf]; omega
                · have dy : decide (ym = y) = false := decide_eq_false hy
                  have dy' : (ym != y) = true := by simpa using hy
                  have HR := Lib.hid (HNOM2.out hy)
                  clear hy
                  go_wp2_with fail
                  refine wp_region_steady [] 63 (by kernel_rfl) (by kernel_rfl) (by kernel_rfl) (by rfl) ?_
                  iterate 11 (refine wpG_quiet (by rfl) (by rfl) (by rfl) (fun K hK => ?_); go_big_quiet_op; refine hK _ ?_; clear hK K)
                  refine wpG_nil fun w3 hl _ => ?_
                  have HB3 := Lib.hid (HBW2.out w3 hl)
                  clear HBW2
                  go_wp2_with fail
                  go_ret
                  exact ⟨by rw [HR.out]; rfl, HB3.out⟩
              · have dx : decide (xm = x) = false := decide_eq_false hx
                have dx' : (xm == x) = false := by simpa using hx
                have HGO2 := Lib.hid (HGO.out hx)
                clear HNOM HOKM HGO hx HNW
                go_wp2_with fail
                refine wp_region_steady [] 63 (by kernel_rfl) (by kernel_rfl) (by kernel_rfl) (by rfl) ?_
                iterate 11 (refine wpG_quiet (by rfl) (by rfl) (by rfl) (fun K hK => ?_); go_big_quiet_op; refine hK _ ?_; clear hK K)
                refine wpG_nil fun w2 hl _ => ?_
                have HB2 := Lib.hid (HBW.out w2 hl)
                clear HBW
                go_wp2_with fail
                go_roundw
                case rel => exact ⟨m, by omega, by go_num, HGO2, HB2⟩
                case measure => simp [iOf]
        · obtain ⟨m, hm⟩ : ∃ m, k = m + 1 := ⟨k - 1, by omega⟩
          have d1 : decide ((0 : Int) < (k : Int)) = true := decide_eq_true (by omega)
          have d1' : decide (0 < k) = true := decide_eq_true (by omega)
          obtain ⟨p, hp⟩ : ∃ p, p = (l[m]'(by omega)).sq := ⟨_, rfl⟩
          have cp : ∀ kk : LW wr, kk.val.cell? ⟨b, o + m * 31, none⟩ = some (.int .i64 p) := fun kk => by rw [hp]; exact (HCC.out _ (HBW.out _ kk.le) m (by omega)).1
          have HNS2 : Hid (q ≤ p → R = false) := Lib.hid (fun e => HNS.out m hm (by rw [← hp]; exact e))
          have HSQ2 : Hid (p < q → sqAt l k < q) := Lib.hid (fun e => HSQ.out m hm (by rw [← hp]; exact e))
          have km : (k : Int) - 1 = (m : Int) := by omega
          have hmn : m < n := by omega
          clear hp hm h0
          by_cases h4 : q ≤ p
          · have d4 : decide (q ≤ p) = true := decide_eq_true h4
            have HR := Lib.hid (HNS2.out h4)
            clear h4
            go_wp2_with fail
            refine wp_region_steady [] 63 (by kernel_rfl) (by kernel_rfl) (by kernel_rfl) (by rfl) ?_
            iterate 3 (refine wpG_quiet (by rfl) (by rfl) (by rfl) (fun K hK => ?_); go_big_quiet_op; refine hK _ ?_; clear hK K)
            refine wpG_run (by rfl) (by rfl) (.agg TT.toArray) (fun wx hl => exec_load 51 (.tmp 13) rfl b (o + k * 31) rfl TT _ (HRG.out wx (HBW.out wx hl.1)) hu rfl (by rw [HTT.out]; exact info_turn)) ?_
            simp only [Act.put, List.setIfInBounds_toArray, List.set_cons_zero, List.set_cons_succ]
            refine wpG_call (by rfl) (by rfl) 20 #[.agg TT.toArray] (.bool true) (by intro _; simp [go_sem]) (by kernel_rfl) (fun wx hl => HT.out wx) ?_
            simp only [Act.put, List.setIfInBounds_toArray, List.set_cons_zero, List.set_cons_succ]
            iterate 19 (refine wpG_quiet (by rfl) (by rfl) (by rfl) (fun K hK => ?_); go_big_quiet_op; refine hK _ ?_; clear hK K)
            refine wpG_nil fun w1 hl _ => ?_
            have HB1 := Lib.hid (HBW.out w1 hl)
            clear HBW
            go_wp2_with fail
            go_ret
            exact ⟨by rw [HR.out]; rfl, HB1.out⟩
          · have d4 : decide (q ≤ p) = false := decide_eq_false h4
            have HQP := Lib.hid (HSQ2.out (by omega))
            clear h4
            go_wp2_with fail
            refine wp_region_steady [] 63 (by kernel_rfl) (by kernel_rfl) (by kernel_rfl) (by rfl) ?_
            iterate 3 (refine wpG_quiet (by rfl) (by rfl) (by rfl) (fun K hK => ?_); go_big_quiet_op; refine hK _ ?_; clear hK K)
            refine wpG_run (by rfl) (by rfl) (.agg TT.toArray) (fun wx hl => exec_load 51 (.tmp 13) rfl b (o + k * 31) rfl TT _ (HRG.out wx (HBW.out wx hl.1)) hu rfl (by rw [HTT.out]; exact info_turn)) ?_
            simp only [Act.put, List.setIfInBounds_toArray, List.set_cons_zero, List.set_cons_succ]
            refine wpG_call (by rfl) (by rfl) 20 #[.agg TT.toArray] (.bool true) (by intro _; simp [go_sem]) (by kernel_rfl) (fun wx hl => HT.out wx) ?_
            simp only [Act.put, List.setIfInBounds_toArray, List.set_cons_zero, List.set_cons_succ]
            iterate 19 (refine wpG_quiet (by rfl) (by rfl) (by rfl) (fun K hK => ?_); go_big_quiet_op; refine hK _ ?_; clear hK K)
            refine wpG_nil fun w1 hl _ => ?_
            have HB1 := Lib.hid (HBW.out w1 hl)
            clear HBW
            have HSTEP : Hid ((∀ u, lastT (l.take k) l[k].id = some u → u.nw = l[k].old) → goTo l (k + 1) = true) := Lib.hid (HNEXT.out (by trivial) (.inr HQP.out))
            have HBC : Hid (∀ W, Below w.heap.size w W → ∀ j (hj : j < l.length), W.cell? ⟨b, o + j * 31 + 1, none⟩ = some (.int .i64 l[j].id) ∧ W.cell? ⟨b, o + j * 31 + 2, none⟩ = some (.int .i64 l[j].old) ∧ W.cell? ⟨b, o + j * 31 + 3, none⟩ = some (.int .i64 l[j].nw)) := Lib.hid (fun W hW j hj => ⟨(HCC.out W hW j hj).2.1, (HCC.out W hW j hj).2.2.1, (HCC.out W hW j hj).2.2.2.1⟩)
            have HIK : Hid (∀ W, Below w.heap.size w W → W.cell? ⟨b, o + k * 31 + 1, none⟩ = some (.int .i64 l[k].id) ∧ W.cell? ⟨b, o + k * 31 + 2, none⟩ = some (.int .i64 l[k].old)) := Lib.hid (fun W hW => ⟨(HBC.out W hW k hkl).1, (HBC.out W hW k hkl).2.1⟩)
            generalize l[k].id = x at HSTEP HNO HIK
            generalize l[k].old = y at HSTEP HNO HIK
            clear HNEXT HNS HSQ HT HTT HRG HCC HCE HNM cq cp d1 d1' d4 km hmn HNS2 HSQ2
            go_wp2_with fail
            go_loopw [4] (fun v wr => ∃ j : Nat, j ≤ k ∧ v = .int .i64 ((j : Int) - 1) ∧ Hid (lastT (l.take k) x = lastT (l.take j) x) ∧ Hid (Below w.heap.size w wr)) (fun v _ => (iOf v + 1).toNat)
            case atStart => exact ⟨k, by omega, rfl, Lib.hid rfl, HB1⟩
            case round =>
              obtain ⟨j, hj, rfl, HLJ, HBJ⟩ := hrel
              cases j with
              | zero =>
                have HG := Lib.hid (HSTEP.out (fun u hu => by rw [HLJ.out] at hu; cases hu))
                rw [show ((0 : Nat) : Int) - 1 = -1 by rfl]
                clear HSTEP HNO HBC HIK HLJ
                go_wp2_with fail
                go_roundw
                case rel => exact ⟨k + 1, by omega, by go_num, HG, HBJ⟩
                case measure => simp [iOf]; omega
              | succ m =>
                rw [show ((m + 1 : Nat) : Int) - 1 = (m : Int) by omega]
                have dm : decide (0 ≤ (m : Int)) = true := decide_eq_true (by omega)
                have hml : m < l.length := by omega
                have hmn : m < n := by omega
                have HBW : Hid (∀ W, Le wr W → Below w.heap.size w W) := Lib.hid (fun W hl => HBJ.out.trans (hl.mono HBJ.out.size))
                have ca : ∀ kk : LW wr, kk.val.cell? ⟨b, o + m * 31 + 1, none⟩ = some (.int .i64 l[m].id) := fun kk => (HBC.out _ (HBW.out _ kk.le) m hml).1
                have cb : ∀ kk : LW wr, kk.val.cell? ⟨b, o + k * 31 + 1, none⟩ = some (.int .i64 x) := fun kk => (HIK.out _ (HBW.out _ kk.le)).1
                have HLB : Hid (lastT (l.take (m + 1)) x = if l[m].id = x then some l[m] else lastT (l.take m) x) := Lib.hid (last_back hml x)
                have HNW : Hid (∀ W, Below w.heap.size w W → W.cell? ⟨b, o + m * 31 + 3, none⟩ = some (.int .i64 l[m].nw)) := Lib.hid (fun W hW => (HBC.out W hW m hml).2.2)
                have HNOM : Hid (l[m].id = x → l[m].nw ≠ y → R = false) := Lib.hid (fun e1 e2 => HNO.out l[m] (by rw [HLJ.out, HLB.out, if_pos e1]) e2)
                have HOKM : Hid (l[m].id = x → l[m].nw = y → goTo l (k + 1) = true) := Lib.hid (fun e1 e2 => HSTEP.out (fun u hu => by
                  rw [HLJ.out, HLB.out, if_pos e1] at hu
                  cases hu
                  exact e2))
                have HGO : Hid (l[m].id ≠ x → lastT (l.take k) x = lastT (l.take m) x) := Lib.hid (fun e1 => by rw [HLJ.out, HLB.out, if_neg e1])
                generalize l[m].id = xm at ca HNOM HOKM HGO
                generalize l[m].nw = ym at HNW HNOM HOKM
                clear HSTEP HNO HBC HLB HLJ
                by_cases hx : xm = x
                · have dx : decide (xm = x) = true := decide_eq_true hx
                  have dx' : (xm == x) = true := by simpa using hx
                  have HNOM2 := Lib.hid (HNOM.out hx)
                  have HOKM2 := Lib.hid (HOKM.out hx)
                  clear HNOM HOKM HGO hx
                  go_wp2_with fail
                  refine wp_region_steady [] 63 (by kernel_rfl) (by kernel_rfl) (by kernel_rfl) (by rfl) ?_
                  iterate 11 (refine wpG_quiet (by rfl) (by rfl) (by rfl) (fun K hK => ?_); go_big_quiet_op; refine hK _ ?_; clear hK K)
                  refine wpG_nil fun w2 hl _ => ?_
                  have HB2 := Lib.hid (HBW.out w2 hl)
                  have HBW2 : Hid (∀ W, Le w2 W → Below w.heap.size w W) := Lib.hid (fun W hl => HB2.out.trans (hl.mono HB2.out.size))
                  have cc : ∀ kk : LW w2, kk.val.cell? ⟨b, o + m * 31 + 3, none⟩ = some (.int .i64 ym) := fun kk => HNW.out _ (HBW2.out _ kk.le)
                  have cd : ∀ kk : LW w2, kk.val.cell? ⟨b, o + k * 31 + 2, none⟩ = some (.int .i64 y) := fun kk => (HIK.out _ (HBW2.out _ kk.le)).2
                  clear HBW ca cb HIK HNW hl
                  by_cases hy : ym = y
                  · have dy : decide (ym = y) = true := decide_eq_true hy
                    have dy' : (ym != y) = false := by simpa using hy
                    have HG := Lib.hid (HOKM2.out hy)
                    clear hy
                    go_wp2_with fail
                    refine wp_region_steady [] 63 (by kernel_rfl) (by kernel_rfl) (by kernel_rfl) (by rfl) ?_
                    iterate 11 (refine wpG_quiet (by rfl) (by rfl) (by rfl) (fun K hK => ?_); go_big_quiet_op; refine hK _ ?_; clear hK K)
                    refine wpG_nil fun w3 hl _ => ?_
                    have HB3 := Lib.hid (HBW2.out w3 hl)
                    clear HBW2
                    go_wp2_with fail
                    go_roundw
                    case rel => exact ⟨k + 1, by omega, by go_num, HG, HB3⟩
                    case measure => simp [iOf]; omega
                  · have dy : decide (ym = y) = false := decide_eq_false hy
                    have dy' : (ym != y) = true := by simpa using hy
                    have HR := Lib.hid (HNOM2.out hy)
                    clear hy
                    go_wp2_with fail
                    refine wp_region_steady [] 63 (by kernel_rfl) (by kernel_rfl) (by kernel_rfl) (by rfl) ?_
                    iterate 11 (refine wpG_quiet (by rfl) (by rfl) (by rfl) (fun K hK => ?_); go_big_quiet_op; refine hK _ ?_; clear hK K)
                    refine wpG_nil fun w3 hl _ => ?_
                    have HB3 := Lib.hid (HBW2.out w3 hl)
                    clear HBW2
                    go_wp2_with fail
                    go_ret
                    exact ⟨by rw [HR.out]; rfl, HB3.out⟩
                · have dx : decide (xm = x) = false := decide_eq_false hx
                  have dx' : (xm == x) = false := by simpa using hx
                  have HGO2 := Lib.hid (HGO.out hx)
                  clear HNOM HOKM HGO hx HNW
                  go_wp2_with fail
                  refine wp_region_steady [] 63 (by kernel_rfl) (by kernel_rfl) (by kernel_rfl) (by rfl) ?_
                  iterate 11 (refine wpG_quiet (by rfl) (by rfl) (by rfl) (fun K hK => ?_); go_big_quiet_op; refine hK _ ?_; clear hK K)
                  refine wpG_nil fun w2 hl _ => ?_
                  have HB2 := Lib.hid (HBW.out w2 hl)
                  clear HBW
                  go_wp2_with fail
                  go_roundw
                  case rel => exact ⟨m, by omega, by go_num, HGO2, HB2⟩
                  case measure => simp [iOf]
    · obtain rfl : k = n := by omega
      have HR := Lib.hid (HALL.out (by rw [HN.out]; exact HK.out))
      clear HF0 HF1 HF2 HALL HTU HTL HCE HS
      go_wp2_with fail
      go_ret
      exact ⟨by rw [HR.out]; rfl, HB.out⟩
end Go.Proofs.Ytcdmbidggikmfaa

/- What turns come to: the document's Net. -/
namespace Go.Proofs.Ytcdmbidggikmfaa
set_option linter.unusedVariables false
set_option linter.unusedSimpArgs false
open Go Go.RowKit BitM

theorem okCd_itm {t : Tn} (h : okCd t.cd) : okCd (itm t).cd := by
  unfold itm
  split
  · exact h
  · split
    · rfl
    · exact h
/-- The last turn of a card among those from a place on, up to another one. -/
def lstU (l : List Tn) (k : Nat) (t : Tn) (j : Nat) : Tn := (lastT ((l.drop k).take j) t.id).getD t
theorem lst_step {l : List Tn} {k m : Nat} (t : Tn) (hm : m < l.length) (hk : k ≤ m) : lstU l k t (m + 1 - k) = if l[m].id = t.id then l[m] else lstU l k t (m - k) := by
  have h1 : m - k < (l.drop k).length := by simp; omega
  have h2 := last_back h1 t.id
  have h3 : (l.drop k)[m - k] = l[m] := by rw [List.getElem_drop]; congr 1; omega
  rw [h3] at h2
  unfold lstU
  rw [show m + 1 - k = m - k + 1 by omega, h2]
  split <;> rfl
theorem lst_end {l : List Tn} {k : Nat} (t : Tn) : lstU l k t (l.length - k) = lastAt l k t := by
  unfold lstU lastAt
  rw [List.take_of_length_le (by simp)]
theorem lastAt_mem {l : List Tn} {k : Nat} (hk : k < l.length) : lastAt l k l[k] ∈ l ∧ (lastAt l k l[k]).id = l[k].id := by
  unfold lastAt
  cases h : lastT (l.drop k) l[k].id with
  | none => exact ⟨List.getElem_mem hk, rfl⟩
  | some u => exact ⟨List.mem_of_mem_drop (last_id h).2, (last_id h).1⟩
theorem lstU_ok {l : List Tn} {k : Nat} (hk : k < l.length) (hok : ∀ t ∈ l, okCd t.cd) (j : Nat) : okCd (lstU l k l[k] j).cd := by
  unfold lstU
  cases h : lastT ((l.drop k).take j) l[k].id with
  | none => exact hok _ (List.getElem_mem hk)
  | some u => exact hok _ (List.mem_of_mem_drop (List.mem_of_mem_take (last_id h).2))
theorem rnet_at {l : List Tn} {k : Nat} (hk : k < l.length) : rnetTo l (k + 1) = if firstAt l k then (if l[k].old = (lastAt l k l[k]).nw then rnetTo l k else rput (rnetTo l k) (itm { lastAt l k l[k] with old := l[k].old })) else rnetTo l k := by
  simp only [rnetTo, List.getElem?_eq_getElem hk]
theorem rput_len (L : List Im) (x : Im) : (rput L x).length = L.length + 1 := by
  have := rpos_le L x
  unfold rput
  simp only [List.length_append, List.length_cons, List.length_take, List.length_drop]
  omega
theorem rnet_len (l : List Tn) : ∀ k, k ≤ l.length → (rnetTo l k).length ≤ k
  | 0, _ => Nat.le_refl _
  | k + 1, h => by
    have ih := rnet_len l k (by omega)
    rw [rnet_at (by omega)]
    split
    · split
      · omega
      · rw [rput_len]; omega
    · omega
theorem rnet_ok {l : List Tn} (hok : ∀ t ∈ l, okCd t.cd) : ∀ k, k ≤ l.length → ∀ x ∈ rnetTo l k, okCd x.cd
  | 0, _ => fun x hx => by cases hx
  | k + 1, h => by
    have ih := rnet_ok hok k (by omega)
    rw [rnet_at (by omega)]
    split
    · split
      · exact ih
      · intro x hx
        rcases rput_mem.1 hx with rfl | hx
        · exact okCd_itm (t := { lastAt l k l[k] with old := l[k].old }) (show okCd (lastAt l k l[k]).cd from hok _ (lastAt_mem (k := k) (l := l) (by omega)).1)
        · exact ih x hx
    · exact ih
/-- A slice of items that is seen is given back. -/
def GivesS (w : World) (L : List Im) (e : Ending) (w' : World) : Prop :=
  ∃ A' c', e = .returned (.slice A' L.length c') ∧ SeesR icl w' A' L.length c' L ∧ Below w.heap.size w w'
theorem row_capi {w : World} {base : Nat} {e : TypeId} {size n c : Nat} {A : Option Addr} {xs : List Value} (h : w.ownsRow base e size (.slice A n c) n xs) : n ≤ c ∧ c ≤ maxLen := by
  rcases h.2 with ⟨e, h0⟩ | ⟨g, cap, cur, e, hx⟩
  · cases e; exact ⟨by omega, by simp [maxLen]⟩
  · cases e; exact ⟨hx.2.2.1, hx.2.2.2.1⟩
theorem row_at {w : World} {base : Nat} {e : TypeId} {size n c : Nat} {A : Option Addr} {xs : List Value} (h : w.ownsRow base e size (.slice A n c) n xs) (hn : 0 < n) : ∃ g, A = some ⟨g, 0, none⟩ := by
  rcases h.2 with ⟨e, h0⟩ | ⟨g, cap, cur, e, hx⟩
  · omega
  · cases e; exact ⟨g, rfl⟩
/-- The items so far, as they lie amid Net. -/
def NetIn (w : World) (g m c : Nat) (L : List Im) : Prop := SeesR icl w (some ⟨g, 0, none⟩) m c L
theorem NetIn.later {w w' : World} {g m c : Nat} {L : List Im} (h : NetIn w g m c L) (hb : Below w.heap.size w w') : NetIn w' g m c L := SeesR.later h hb
theorem netin_put (w : World) (g m c : Nat) (L : List Im) (x : Im) (h : NetIn w g m c L) (hok : ∀ y ∈ L, okCd y.cd) (hx : okCd x.cd) (hz : L.length ≤ 65536) :
    Calls Try.prog 25 #[.slice (some ⟨g, 0, none⟩) m c, .agg (icl x).toArray] w fun e w' => ∃ g' m' c', e = .returned (.slice (some ⟨g', 0, none⟩) m' c') ∧ NetIn w' g' m' c' (rput L x) ∧ Below w.heap.size w w' := by
  refine (rput23_any g 0 m c L x w h hok hx (by have := h.len; omega)).mono ?_
  rintro e w' ⟨A', c', rfl, hr, _, hb⟩
  obtain ⟨g', rfl⟩ := row_at hr (by rw [rput_len]; omega)
  exact ⟨g', _, c', rfl, SeesR.of_row hr rfl (row_capi hr), hb⟩
set_option maxRecDepth 100000 in
set_option maxHeartbeats 6400000 in
theorem rnets_any (A : Option Addr) (n c : Nat) (l : List Tn) (w : World) (h : SeesR tcl w A n c l) (hok : ∀ t ∈ l, okCd t.cd) (hz : n ≤ 65000) :
    Calls Try.prog 14 #[.slice A n c] w (GivesS w (rnetTo l l.length)) := by
  have hu := Try.underlying51
  have huc := Try.underlying43
  have HS := Lib.hid h
  have HN := Lib.hid h.len
  have HOK := Lib.hid hok
  have HCE : Hid (∀ k, k < l.length → ∃ b o, A = some ⟨b, o, none⟩ ∧ ∀ W, Below w.heap.size w W → ∀ k (hk : k < l.length), W.cell? ⟨b, o + k * 31 + 1, none⟩ = some (.int .i64 l[k].id) ∧
      W.cell? ⟨b, o + k * 31 + 2, none⟩ = some (.int .i64 l[k].old) ∧ W.rangeAt b (o + k * 31) (tcl l[k])) := Lib.hid (fun k hk => by
    obtain ⟨b, o, e, _, hc⟩ := turn_cells h hok (by omega)
    exact ⟨b, o, e, fun W hW k hk => ⟨(hc W hW k hk).2.1, (hc W hW k hk).2.2.1, (hc W hW k hk).2.2.2.2.1⟩⟩)
  have HFI := Lib.hid (fun W (hW : Below w.heap.size w W) k (hk : k < l.length) R hR => rfirst_any A n c l W (h.later hW) hok k hk (by omega) R hR)
  have HPUT := Lib.hid (fun W g m c k (hk : k ≤ l.length) x hn hx => netin_put W g m c (rnetTo l k) x hn (rnet_ok hok k hk) hx (by have := rnet_len l k hk; have := h.len; omega))
  have HNET := Lib.hid (fun k (hk : k < l.length) => rnet_at hk)
  have HTLN := Lib.hid (fun k (hk : k < l.length) => tcl_len (hok _ (List.getElem_mem hk)))
  have HLST := Lib.hid (fun k (hk : k < l.length) m (hm : m < l.length) hkm => lst_step l[k] (l := l) (k := k) hm hkm)
  have HUOK := Lib.hid (fun k (hk : k < l.length) j => lstU_ok hk hok j)
  have HEND := Lib.hid (fun k (hk : k < l.length) => And.intro (lst_end (l := l) (k := k) l[k]) (lastAt_mem hk))
  obtain ⟨Z, hZ⟩ : ∃ Z, Z = tcl ⟨0, 0, 0, 0, zcd⟩ := ⟨_, rfl⟩
  have HZL := Lib.hid (show Z.length = 31 by rw [hZ]; rfl)
  have HZZ : Hid (Z.toArray = #[Value.int .i64 0, .int .i64 0, .int .i64 0, .int .i64 0, .int .i64 0, .int .i64 0, .int .u32 0, .int .i64 0, .int .i64 0, .string { data := #[] }, .int .i64 0, .int .i64 0, .string { data := #[] }, .int .i64 0, .int .i64 0, .string { data := #[] }, .int .i64 0, .int .i64 0, .string { data := #[] }, .int .i64 0, .int .i64 0, .string { data := #[] }, .int .i64 0, .int .i64 0, .string { data := #[] }, .int .i64 0, .int .i64 0, .string { data := #[] }, .int .i64 0, .int .i64 0, .string { data := #[] }]) := Lib.hid (by rw [hZ]; exact zc31)
  have HB0 := Lib.hid ((Below.refl w.heap.size w).alloc (Nat.le_refl _) (.cells #[] 54))
  have HI0 : Hid (NetIn (w.alloc (.cells #[] 54)) w.heap.size 0 0 (rnetTo l 0)) := Lib.hid ⟨rfl, Nat.le_refl _, by simp [maxLen], fun hx => by simp [rws, rnetTo] at hx⟩
  clear h hok hZ
  go_enter Try.func14, Try.ntmps14
  go_wp2_with fail
  go_loopw [3, 4] (fun v i wr => ∃ k g mm cc : Nat, k ≤ n ∧ v = .slice (some ⟨g, 0, none⟩) mm cc ∧ i = .int .i64 (k : Int) ∧ Hid (NetIn wr g mm cc (rnetTo l k)) ∧ Hid (Below w.heap.size w wr)) (fun _ i _ => n - (iOf i).toNat)
  case atStart => exact ⟨0, w.heap.size, 0, 0, by omega, rfl, rfl, HI0, HB0⟩
  case round =>
    clear HI0 HB0
    obtain ⟨k, g, mm, cc, hk, rfl, rfl, HI, HB⟩ := hrel
    by_cases hlt : k < n
    · have d0 : decide ((k : Int) < (n : Int)) = true := decide_eq_true (by omega)
      have hkl : k < l.length := by rw [HN.out]; exact hlt
      obtain ⟨b, o, rfl, hcc⟩ := HCE.out k hkl
      have HCC := Lib.hid hcc
      have HN1 := Lib.hid (HNET.out k hkl)
      by_cases hf : firstAt l k
      · have HF1 := Lib.hid (HFI.out wr HB.out k hkl true (by simpa using hf))
        have HN2 : Hid (rnetTo l (k + 1) = if l[k].old = (lastAt l k l[k]).nw then rnetTo l k else rput (rnetTo l k) (itm { lastAt l k l[k] with old := l[k].old })) := Lib.hid (by rw [HN1.out, if_pos hf])
        have HPK := Lib.hid (fun W x hn hx => HPUT.out W g mm cc k (Nat.le_of_lt hkl) x hn hx)
        have HTT := Lib.hid (HTLN.out k hkl)
        have HT1 := Lib.hid (tcl_one l[k])
        have HST := Lib.hid (HLST.out k hkl)
        have HUK := Lib.hid (HUOK.out k hkl)
        have HEN := Lib.hid (HEND.out k hkl)
        have HU0 : Hid (lstU l k l[k] (k - k) = l[k]) := Lib.hid (by rw [Nat.sub_self]; rfl)
        clear HFI HPUT HNET HLST HUOK HEND HN1 hf hcc HCE
        go_wp2_with fail
        refine (HF1.out).mono ?_
        rintro e w1 ⟨rfl, hb1⟩
        have HB1 := Lib.hid (HB.out.trans (hb1.mono HB.out.size))
        have HI1 := Lib.hid (HI.out.later hb1)
        clear HF1 HB HI hb1
        obtain ⟨TT, hTT⟩ : ∃ TT, TT = tcl l[k] := ⟨_, rfl⟩
        have hrg := (HCC.out w1 HB1.out k hkl).2.2
        rw [← hTT] at hrg HTT HT1
        have B1 := Blk.new w1 Z 51
        have hb2 := (Below.refl w1.heap.size w1).alloc (Nat.le_refl _) (.cells Z.toArray 51)
        have TH1 := B1.there 0 31 (by rw [HZL.out]; omega)
        obtain ⟨W1, hW1⟩ : ∃ W1, W1 = (w1.alloc (.cells Z.toArray 51)).setCells w1.heap.size 0 TT := ⟨_, rfl⟩
        have B2 : Blk W1 w1.heap.size TT := by rw [hW1]; exact B1.whole (by rw [HZL.out, HTT.out])
        have hb3 : Below w1.heap.size w1 W1 := by rw [hW1]; exact below_sets (Nat.le_refl _) _ _ hb2
        have HBI : Hid (Blk W1 w1.heap.size (tcl (lstU l k l[k] (k - k)))) := Lib.hid (by rw [HU0.out, ← hTT]; exact B2)
        have HBE := Lib.hid hb3
        have HW1 := Lib.hid hW1
        rw [HZZ.out] at TH1
        clear hTT B1 hb2 hW1 B2 hb3 HU0
        go_wp2_with (first
          | (refine wpList_load_mid rfl 51 (.tmp 21) rfl b (o + k * 31) rfl TT _ hrg hu rfl (by rw [HTT.out]; exact info_turn) ?_
             simp only [Act.put, List.setIfInBounds_toArray, List.set_cons_zero, List.set_cons_succ])
          | (refine wpList_store_mid rfl 51 (.tmp 5) (.tmp 22) rfl w1.heap.size 0 TT.toArray rfl rfl (by simpa [HTT.out] using TH1) (by simpa [HTT.out] using info_turn) (all_oneCell_toArray HT1.out) ?_
             rw [← HZZ.out, ← HW1.out]
             clear TH1 hrg HTT HT1)
          | fail)
        go_loopw [6] (fun i wr => ∃ m : Nat, k ≤ m ∧ m ≤ n ∧ i = .int .i64 (m : Int) ∧ Hid (Blk wr w1.heap.size (tcl (lstU l k l[k] (m - k)))) ∧ Hid (Below w1.heap.size w1 wr)) (fun i _ => n - (iOf i).toNat)
        case atStart => exact ⟨k, by omega, by omega, rfl, HBI, HBE⟩
        case round =>
          clear HBI HBE HW1
          obtain ⟨m, hm1, hm2, rfl, HBI, HBE⟩ := hrel
          by_cases hmn : m < n
          · have dm : decide ((m : Int) < (n : Int)) = true := decide_eq_true (by omega)
            have hml : m < l.length := by rw [HN.out]; exact hmn
            have HBW : Hid (∀ W, Le wr W → Below w.heap.size w W) := Lib.hid (fun W hl => HB1.out.trans ((HBE.out.trans (hl.mono HBE.out.size)).mono HB1.out.size))
            have HLS := Lib.hid (HST.out m hml hm1)
            have HTM := Lib.hid (HTLN.out m hml)
            have HTO := Lib.hid (tcl_one l[m])
            have ca : ∀ kk : LW wr, kk.val.cell? ⟨b, o + m * 31 + 1, none⟩ = some (.int .i64 l[m].id) := fun kk => (HCC.out _ (HBW.out _ kk.le) m hml).1
            have cb : ∀ kk : LW wr, kk.val.cell? ⟨b, o + k * 31 + 1, none⟩ = some (.int .i64 l[k].id) := fun kk => (HCC.out _ (HBW.out _ kk.le) k hkl).1
            have HRM : Hid (∀ W, Le wr W → W.rangeAt b (o + m * 31) (tcl l[m])) := Lib.hid (fun W hl => (HCC.out W (HBW.out W hl) m hml).2.2)
            generalize hx : l[m].id = x at ca HLS
            generalize hy : l[k].id = y at cb HLS
            have HUL : Hid ((tcl (lstU l k l[k] (m - k))).length = 31) := Lib.hid (tcl_len (HUK.out (m - k)))
            clear hx hy HEN HPK HN2 HI1 HST HCC HUK
            by_cases hxy : x = y
            · have dx : decide (x = y) = true := decide_eq_true hxy
              have dx' : (x == y) = true := by simpa using hxy
              have HL2 : Hid (lstU l k l[k] (m + 1 - k) = l[m]) := Lib.hid (by rw [HLS.out, if_pos hxy])
              clear HLS hxy
              obtain ⟨TT, hTT⟩ : ∃ TT, TT = tcl l[m] := ⟨_, rfl⟩
              rw [← hTT] at HTM HTO HRM
              have HTE := Lib.hid hTT
              clear hTT
              go_wp2_with fail
              refine wp_region_steady [] 76 (by kernel_rfl) (by kernel_rfl) (by kernel_rfl) (by rfl) ?_
              iterate 11 (refine wpG_quiet (by rfl) (by rfl) (by rfl) (fun K hK => ?_); go_big_quiet_op; refine hK _ ?_; clear hK K)
              refine wpG_nil fun w2 hl _ => ?_
              have HB2 := Lib.hid (HBE.out.trans (hl.mono HBE.out.size))
              have HBI2 := Lib.hid (HBI.out.later hl)
              have hrg := HRM.out w2 hl
              have TH := HBI2.out.there 0 31 (by rw [HUL.out]; omega)
              obtain ⟨W3, hW3⟩ : ∃ W3, W3 = w2.setCells w1.heap.size 0 TT := ⟨_, rfl⟩
              have HBI3 : Hid (Blk W3 w1.heap.size (tcl (lstU l k l[k] (m + 1 - k)))) := Lib.hid (by rw [HL2.out, ← HTE.out, hW3]; exact HBI2.out.whole (by rw [HUL.out, HTM.out]))
              have HB3 : Hid (Below w1.heap.size w1 W3) := Lib.hid (by rw [hW3]; exact below_sets (Nat.le_refl _) _ _ HB2.out)
              have HW3 := Lib.hid hW3
              clear HBW ca cb hl HRM hW3
              go_wp2_with (first
                | (refine wpList_load_mid rfl 51 (.tmp 43) rfl b (o + m * 31) rfl TT _ hrg hu rfl (by rw [HTM.out]; exact info_turn) ?_
                   simp only [Act.put, List.setIfInBounds_toArray, List.set_cons_zero, List.set_cons_succ])
                | (refine wpList_store_mid rfl 51 (.tmp 5) (.tmp 44) rfl w1.heap.size 0 TT.toArray rfl rfl (by simpa [HTM.out] using TH) (by simpa [HTM.out] using info_turn) (all_oneCell_toArray HTO.out) ?_
                   rw [← HW3.out]
                   clear TH hrg)
                | fail)
              go_roundw
              case rel => exact ⟨m + 1, by omega, by omega, by go_num, HBI3, HB3⟩
              case measure => simp [iOf]; omega
            · have dx : decide (x = y) = false := decide_eq_false hxy
              have dx' : (x == y) = false := by simpa using hxy
              have HL2 : Hid (lstU l k l[k] (m + 1 - k) = lstU l k l[k] (m - k)) := Lib.hid (by rw [HLS.out, if_neg hxy])
              clear HLS hxy HRM HTM HTO
              go_wp2_with fail
              refine wp_region_steady [] 76 (by kernel_rfl) (by kernel_rfl) (by kernel_rfl) (by rfl) ?_
              iterate 11 (refine wpG_quiet (by rfl) (by rfl) (by rfl) (fun K hK => ?_); go_big_quiet_op; refine hK _ ?_; clear hK K)
              refine wpG_nil fun w2 hl _ => ?_
              have HB2 := Lib.hid (HBE.out.trans (hl.mono HBE.out.size))
              have HBI3 : Hid (Blk w2 w1.heap.size (tcl (lstU l k l[k] (m + 1 - k)))) := Lib.hid (by rw [HL2.out]; exact HBI.out.later hl)
              clear HBW ca cb hl
              go_wp2_with fail
              go_roundw
              case rel => exact ⟨m + 1, by omega, by omega, by go_num, HBI3, HB2⟩
              case measure => simp [iOf]; omega
          · obtain rfl : m = n := by omega
            have HBU : Hid (Blk wr w1.heap.size (tcl (lastAt l k l[k]))) := Lib.hid (by
              have := HBI.out
              rw [← HN.out, HEN.out.1] at this
              exact this)
            have HUO : Hid (okCd (lastAt l k l[k]).cd) := Lib.hid (by have := HUK.out (l.length - k); rwa [HEN.out.1] at this)
            have HBF := Lib.hid (HB1.out.trans (HBE.out.mono HB1.out.size))
            have HI2 := Lib.hid (HI1.out.later HBE.out)
            have HCO := (HCC.out wr HBF.out k hkl).2.1
            clear HBI HBE HEN HST HUK HCC HB1 HI1
            generalize lastAt l k l[k] = U at HBU HUO HN2
            generalize l[k].old = q at HCO HN2
            obtain ⟨sq, id, old, nw, cd⟩ := U
            dsimp only at HN2 HUO
            have u1 := HBU.out.cell (j := 1) (v := .int .i64 id) rfl
            have u3 := HBU.out.cell (j := 3) (v := .int .i64 nw) rfl
            have RG := HBU.out.range 4 (ccl cd) (tcl_drop HUO.out)
            have HCL := Lib.hid (ccl_len HUO.out)
            clear HBU HTLN
            by_cases hq : q = nw
            · have dq : decide (q = nw) = true := decide_eq_true hq
              have dq' : (q == nw) = true := by simpa using hq
              have HG : Hid (NetIn wr g mm cc (rnetTo l (k + 1))) := Lib.hid (by rw [HN2.out, if_pos hq]; exact HI2.out)
              clear hq HN2 HPK HI2
              go_wp2_with fail
              go_roundw
              case rel => exact ⟨k + 1, g, mm, cc, by omega, rfl, by go_num, HG, HBF⟩
              case measure => simp [iOf]; omega
            · have dq : decide (q = nw) = false := decide_eq_false hq
              have dq' : (q == nw) = false := by simpa using hq
              have HN3 : Hid (rnetTo l (k + 1) = rput (rnetTo l k) (itm ⟨sq, id, q, nw, cd⟩)) := Lib.hid (by rw [HN2.out, if_neg hq])
              have HPK2 := Lib.hid (fun x hx => HPK.out wr x HI2.out hx)
              clear hq HN2 HPK HI2
              by_cases h0 : q = 0
              · have e0 : decide (q = 0) = true := decide_eq_true h0
                have e0' : (q == 0) = true := by simpa using h0
                have HX : Hid (rnetTo l (k + 1) = rput (rnetTo l k) ⟨1, cd⟩) := Lib.hid (by rw [HN3.out]; unfold itm; rw [if_pos h0])
                have HP := Lib.hid (HPK2.out ⟨1, cd⟩ HUO.out)
                rw [← HX.out] at HP
                clear h0 HN3 HPK2 HX
                go_wp2_with (first
                  | (refine wpList_load_mid rfl 43 (.tmp 57) rfl w1.heap.size 4 rfl (ccl cd) _ RG huc rfl (by rw [HCL.out]; exact info_card) ?_
                     simp only [Act.put, List.setIfInBounds_toArray, List.set_cons_zero, List.set_cons_succ])
                  | (refine wpList_exec (by rfl) (.agg (icl ⟨1, cd⟩).toArray) (exec_item (.const (.int .i64 1)) (.tmp 58) rfl 1 cd HUO.out rfl rfl _) ?_
                     simp only [Act.put, List.setIfInBounds_toArray, List.set_cons_zero, List.set_cons_succ])
                  | fail)
                refine HP.out.mono ?_
                rintro e w5 ⟨g5, m5, c5, rfl, hi5, hb5⟩
                have HI5 := Lib.hid hi5
                have HB5 := Lib.hid (HBF.out.trans (hb5.mono HBF.out.size))
                clear hi5 hb5 RG u1 u3 HCO HP
                go_wp2_with fail
                go_roundw
                case rel => exact ⟨k + 1, g5, m5, c5, by omega, rfl, by go_num, HI5, HB5⟩
                case measure => simp [iOf]; omega
              · have e0 : decide (q = 0) = false := decide_eq_false h0
                have e0' : (q == 0) = false := by simpa using h0
                by_cases h1 : nw = 0
                · have e1 : decide (nw = 0) = true := decide_eq_true h1
                  have e1' : (nw == 0) = true := by simpa using h1
                  have HX : Hid (rnetTo l (k + 1) = rput (rnetTo l k) ⟨2, (id, 0, 0, zeros)⟩) := Lib.hid (by rw [HN3.out]; unfold itm; rw [if_neg h0, if_pos h1])
                  have HP := Lib.hid (HPK2.out ⟨2, (id, 0, 0, zeros)⟩ rfl)
                  rw [← HX.out] at HP
                  clear h0 h1 HN3 HPK2 HX
                  go_wp2_with (first
                    | (refine wpList_exec (by rfl) (.agg (ccl (id, 0, 0, zeros)).toArray) (exec_cid (.tmp 66) rfl id rfl _) ?_
                       simp only [Act.put, List.setIfInBounds_toArray, List.set_cons_zero, List.set_cons_succ])
                    | (refine wpList_exec (by rfl) (.agg (icl ⟨2, (id, 0, 0, zeros)⟩).toArray) (exec_item (.const (.int .i64 2)) (.tmp 67) rfl 2 (id, 0, 0, zeros) (show okCd (id, 0, 0, zeros) from rfl) rfl rfl _) ?_
                       simp only [Act.put, List.setIfInBounds_toArray, List.set_cons_zero, List.set_cons_succ])
                    | fail)
                  refine HP.out.mono ?_
                  rintro e w5 ⟨g5, m5, c5, rfl, hi5, hb5⟩
                  have HI5 := Lib.hid hi5
                  have HB5 := Lib.hid (HBF.out.trans (hb5.mono HBF.out.size))
                  clear hi5 hb5 RG u1 u3 HCO HP
                  go_wp2_with fail
                  go_roundw
                  case rel => exact ⟨k + 1, g5, m5, c5, by omega, rfl, by go_num, HI5, HB5⟩
                  case measure => simp [iOf]; omega
                · have e1 : decide (nw = 0) = false := decide_eq_false h1
                  have e1' : (nw == 0) = false := by simpa using h1
                  have HX : Hid (rnetTo l (k + 1) = rput (rnetTo l k) ⟨3, cd⟩) := Lib.hid (by rw [HN3.out]; unfold itm; rw [if_neg h0, if_neg h1])
                  have HP := Lib.hid (HPK2.out ⟨3, cd⟩ HUO.out)
                  rw [← HX.out] at HP
                  clear h0 h1 HN3 HPK2 HX
                  go_wp2_with (first
                    | (refine wpList_load_mid rfl 43 (.tmp 71) rfl w1.heap.size 4 rfl (ccl cd) _ RG huc rfl (by rw [HCL.out]; exact info_card) ?_
                       simp only [Act.put, List.setIfInBounds_toArray, List.set_cons_zero, List.set_cons_succ])
                    | (refine wpList_exec (by rfl) (.agg (icl ⟨3, cd⟩).toArray) (exec_item (.const (.int .i64 3)) (.tmp 72) rfl 3 cd HUO.out rfl rfl _) ?_
                       simp only [Act.put, List.setIfInBounds_toArray, List.set_cons_zero, List.set_cons_succ])
                    | fail)
                  refine HP.out.mono ?_
                  rintro e w5 ⟨g5, m5, c5, rfl, hi5, hb5⟩
                  have HI5 := Lib.hid hi5
                  have HB5 := Lib.hid (HBF.out.trans (hb5.mono HBF.out.size))
                  clear hi5 hb5 RG u1 u3 HCO HP
                  go_wp2_with fail
                  go_roundw
                  case rel => exact ⟨k + 1, g5, m5, c5, by omega, rfl, by go_num, HI5, HB5⟩
                  case measure => simp [iOf]; omega
      · have HF1 := Lib.hid (HFI.out wr HB.out k hkl false (by simpa using hf))
        have HN2 : Hid (rnetTo l (k + 1) = rnetTo l k) := Lib.hid (by rw [HN1.out, if_neg hf])
        clear HFI HPUT HNET HLST HUOK HEND HN1 hf hcc HCE HTLN HCC
        go_wp2_with fail
        refine (HF1.out).mono ?_
        rintro e w1 ⟨rfl, hb1⟩
        have HB1 := Lib.hid (HB.out.trans (hb1.mono HB.out.size))
        have HI1 : Hid (NetIn w1 g mm cc (rnetTo l (k + 1))) := Lib.hid (by rw [HN2.out]; exact HI.out.later hb1)
        clear HF1 HB HI hb1 HN2
        go_wp2_with fail
        go_roundw
        case rel => exact ⟨k + 1, g, mm, cc, by omega, rfl, by go_num, HI1, HB1⟩
        case measure => simp [iOf]; omega
    · obtain rfl : k = n := by omega
      have HF : Hid (GivesS w (rnetTo l l.length) (.returned (.slice (some ⟨g, 0, none⟩) mm cc)) wr) := Lib.hid (by
        have hs := HI.out
        unfold NetIn at hs
        rw [← HN.out] at hs
        have e := hs.len
        exact ⟨_, cc, by rw [e], by rw [e]; exact hs, HB.out⟩)
      clear HFI HPUT HNET HTLN HLST HUOK HEND HI HCE HS
      go_wp2_with fail
      go_ret
      exact HF.out
end Go.Proofs.Ytcdmbidggikmfaa

/- How many items a net has, turn by turn; as many turns as fit into a page: mathematics. -/
namespace Go.Proofs.Ytcdmbidggikmfaa
set_option linter.unusedVariables false
set_option linter.unusedSimpArgs false
open Go Go.RowKit

def one01 (b : Bool) : Int := if b then 1 else 0
theorem count_put {α : Type} (q : Int × α → Bool) (x : Int) (v : α) : ∀ {m : KV α}, KRise m →
    ((kput m x v).countP q : Int) = (m.countP q : Int) - (match kget m x with | some u => one01 (q (x, u)) | none => 0) + one01 (q (x, v))
  | [], _ => by
    show (([(x, v)] : KV α).countP q : Int) = 0 - 0 + _
    rw [List.countP_cons, List.countP_nil]
    unfold one01
    cases q (x, v) <;> simp
  | p :: m, hr => by
    obtain ⟨h1, h2⟩ := List.pairwise_cons.1 hr
    unfold kput
    by_cases hx : x < p.1
    · rw [if_pos hx, kget_low (m := p :: m) (fun r hrm => by
        rcases List.mem_cons.1 hrm with rfl | hrm
        · exact hx
        · have := h1 r hrm; omega), List.countP_cons]
      unfold one01
      cases q (x, v) <;> simp
    · rw [if_neg hx]
      by_cases he : p.1 = x
      · rw [if_pos he]
        have hg : kget (p :: m) x = some p.2 := by unfold kget; rw [List.find?_cons, decide_eq_true he]; rfl
        rw [hg, List.countP_cons, List.countP_cons]
        have hp : p = (x, p.2) := by rw [← he]
        simp only
        rw [← hp]
        unfold one01
        cases q (x, v) <;> cases q p <;> simp <;> omega
      · rw [if_neg he]
        have hg : kget (p :: m) x = kget m x := by unfold kget; rw [List.find?_cons, decide_eq_false he]
        rw [hg, List.countP_cons, List.countP_cons]
        have := count_put q x v h2
        cases q p <;> simp <;> omega
def live (p : Int × Tn) : Bool := !decide (p.2.old = p.2.nw)
theorem net_count (l : List Tn) : (net l).length = (wmap l).countP live := by
  unfold net
  generalize wmap l = m
  induction m with
  | nil => rfl
  | cons p m ih =>
    rw [List.filterMap_cons, List.countP_cons]
    unfold pick live at *
    by_cases h : p.2.old = p.2.nw
    · simp [h]
      exact ih
    · simp [h]
      exact ih
def chg (f v : Int) : Int := if v = f then 0 else 1
theorem chg_live (f v : Int) : one01 (!decide (f = v)) = chg f v := by
  unfold one01 chg
  by_cases h : f = v
  · simp [h]
  · simp [h, show ¬ v = f from fun e => h e.symm]
theorem chg_same (f : Int) : chg f f = 0 := by unfold chg; rw [if_pos rfl]
/-- What a card was at first: the Old of its first turn. -/
def fstOld (l : List Tn) (i : Int) (z : Int) : Int := match firstT l i with | some f => f.old | none => z
/-- One turn more. -/
theorem net_step {a : List Tn} {t : Tn} (hc : chainT (a ++ [t])) :
    ((net (a ++ [t])).length : Int) = (net a).length + chg (fstOld a t.id t.old) t.nw - chg (fstOld a t.id t.old) t.old := by
  rw [net_count, net_count, wmap_append]
  unfold wstep
  rw [count_put live _ _ (wmap_rise a), wmap_get]
  have hlast := hc a t [] rfl
  unfold fstOld whole
  cases hf : firstT a t.id with
  | none =>
    simp only
    show _ - 0 + one01 (!decide (t.old = t.nw)) = _
    rw [chg_live, chg_same]
    omega
  | some f =>
    cases hl : lastT a t.id with
    | none => exact absurd ((first_last a t.id).2 hl) (by rw [hf]; simp)
    | some u =>
      have hu := hlast u hl
      simp only
      show _ - one01 (!decide (f.old = u.nw)) + one01 (!decide (f.old = t.nw)) = _
      rw [chg_live, chg_live, hu]
      omega
/-- The greatest number of turns whose net fits, up to k. -/
def best (l : List Tn) (page : Nat) : Nat → Nat
  | 0 => 0
  | k + 1 => if (net (l.take (k + 1))).length ≤ page then k + 1 else best l page k
theorem best_le (l : List Tn) (page : Nat) : ∀ k, best l page k ≤ k
  | 0 => Nat.le_refl _
  | k + 1 => by
    unfold best
    split
    · exact Nat.le_refl _
    · have := best_le l page k; omega
theorem best_fits (l : List Tn) (page : Nat) : ∀ k, (net (l.take (best l page k))).length ≤ page
  | 0 => Nat.zero_le _
  | k + 1 => by
    unfold best
    split
    · assumption
    · exact best_fits l page k
theorem best_most (l : List Tn) (page : Nat) : ∀ {k j : Nat}, best l page k < j → j ≤ k → page < (net (l.take j)).length
  | 0, j, h, hj => by omega
  | k + 1, j, h, hj => by
    unfold best at h
    split at h
    · omega
    · rename_i hn
      rcases Nat.lt_or_ge k j with h1 | h1
      · have : j = k + 1 := by omega
        subst this
        omega
      · exact best_most l page h h1
/-- A cut that is not the last takes as many turns as fit at least. -/
theorem best_page {l : List Tn} {page : Nat} (h : best l page l.length < l.length) : page ≤ best l page l.length := by
  have h1 := best_most l page (k := l.length) (j := best l page l.length + 1) (by omega) (by omega)
  have h2 := net_len (l.take (best l page l.length + 1))
  rw [List.length_take] at h2
  omega
/-- Up to which step. -/
def stepAt (l : List Tn) (now : Int) (n : Nat) : Int := match l[n]? with | some t => t.sq - 1 | none => now
def upl (l : List Tn) (from' to cur : Int) : List Tn := l.filter (fun t => decide (from' < t.sq ∧ t.sq ≤ to ∧ t.id ≤ cur))
abbrev SRise (l : List Tn) : Prop := l.Pairwise (fun p q => p.sq < q.sq)
theorem upl_rise {l : List Tn} (h : SRise l) (a b c : Int) : SRise (upl l a b c) := h.filter _
theorem upl_mem {l : List Tn} {a b c : Int} {t : Tn} : t ∈ upl l a b c ↔ t ∈ l ∧ a < t.sq ∧ t.sq ≤ b ∧ t.id ≤ c := by
  unfold upl
  rw [List.mem_filter]
  simp
/-- The turns up to a step amid those up to a later one: the first ones. -/
theorem split_step : ∀ {u : List Tn} (n : Nat) (now : Int), SRise u → (∀ t ∈ u, t.sq ≤ now) → n ≤ u.length →
    u.filter (fun t => decide (t.sq ≤ stepAt u now n)) = u.take n ∧ u.filter (fun t => decide (stepAt u now n < t.sq)) = u.drop n
  | [], n, now, _, _, hn => by simp
  | t :: u, 0, now, hr, hb, hn => by
    obtain ⟨h1, h2⟩ := List.pairwise_cons.1 hr
    have e : stepAt (t :: u) now 0 = t.sq - 1 := rfl
    rw [e]
    constructor
    · rw [List.take_zero, List.filter_eq_nil_iff]
      intro s hs
      rcases List.mem_cons.1 hs with rfl | hs
      · simp; omega
      · have := h1 s hs; simp; omega
    · rw [List.drop_zero, List.filter_eq_self]
      intro s hs
      refine decide_eq_true ?_
      rcases List.mem_cons.1 hs with rfl | hs
      · omega
      · have := h1 s hs; omega
  | t :: u, n + 1, now, hr, hb, hn => by
    obtain ⟨h1, h2⟩ := List.pairwise_cons.1 hr
    have e : stepAt (t :: u) now (n + 1) = stepAt u now n := rfl
    rw [e]
    obtain ⟨i1, i2⟩ := split_step n now h2 (fun s hs => hb s (List.mem_cons_of_mem _ hs)) (by simpa using hn)
    have ht : t.sq ≤ stepAt u now n := by
      unfold stepAt
      cases hu : u[n]? with
      | none => exact hb t List.mem_cons_self
      | some s =>
        have hs : s ∈ u := List.mem_of_getElem? hu
        have := h1 s hs
        simp only
        omega
    constructor
    · rw [List.filter_cons, decide_eq_true ht, List.take_succ_cons, i1]
      rfl
    · rw [List.filter_cons, decide_eq_false (by omega), List.drop_succ_cons, i2]
      rfl
theorem step_most {u : List Tn} {n : Nat} {now a : Int} (hb : ∀ t ∈ u, a < t.sq ∧ t.sq ≤ now) (ha : a ≤ now) : a ≤ stepAt u now n ∧ stepAt u now n ≤ now := by
  unfold stepAt
  cases hu : u[n]? with
  | none => exact ⟨ha, Int.le_refl _⟩
  | some s =>
    have := hb s (List.mem_of_getElem? hu)
    simp only
    omega
/-- What is cut, and what is left. -/
theorem upl_cut {l : List Tn} (hr : SRise l) {a now c : Int} (ha : a ≤ now) {n : Nat} (hn : n ≤ (upl l a now c).length) :
    upl l a (stepAt (upl l a now c) now n) c = (upl l a now c).take n ∧ upl l (stepAt (upl l a now c) now n) now c = (upl l a now c).drop n := by
  obtain ⟨u, hu⟩ : ∃ u, u = upl l a now c := ⟨_, rfl⟩
  have hb : ∀ t ∈ u, a < t.sq ∧ t.sq ≤ now := fun t ht => by
    rw [hu] at ht
    have := upl_mem.1 ht
    exact ⟨this.2.1, this.2.2.1⟩
  have hs := split_step (u := u) n now (by rw [hu]; exact upl_rise hr _ _ _) (fun t ht => (hb t ht).2) (by rw [hu]; exact hn)
  obtain ⟨s1, s2⟩ := step_most (n := n) hb ha
  rw [← hu]
  rw [← hs.1, ← hs.2]
  generalize stepAt u now n = to at *
  rw [hu]
  unfold upl
  rw [List.filter_filter, List.filter_filter]
  constructor
  · refine List.filter_congr (fun t _ => ?_)
    rw [← Bool.decide_and]
    exact decide_eq_decide.2 ⟨fun h => ⟨h.2.1, h.1, by omega, h.2.2⟩, fun h => ⟨h.2.1, h.1, h.2.2.2⟩⟩
  · refine List.filter_congr (fun t _ => ?_)
    rw [← Bool.decide_and]
    exact decide_eq_decide.2 ⟨fun h => ⟨h.1, by omega, h.2.1, h.2.2⟩, fun h => ⟨h.1, h.2.2.1, h.2.2.2⟩⟩
end Go.Proofs.Ytcdmbidggikmfaa

/- Cut after cut comes to the end: mathematics. -/
namespace Go.Proofs.Ytcdmbidggikmfaa
set_option linter.unusedVariables false
set_option linter.unusedSimpArgs false
open Go Go.RowKit

theorem last_filter (P : Tn → Bool) (i : Int) : ∀ {s : List Tn} {v : Tn}, lastT s i = some v → P v = true → lastT (s.filter P) i = some v
  | [], v, h, _ => by cases h
  | t :: s, v, h, hp => by
    unfold lastT at h
    rw [List.filter_cons]
    cases hl : lastT s i with
    | some u =>
      rw [hl] at h
      cases h
      have ih := last_filter P i hl hp
      split
      · unfold lastT
        rw [ih]
      · exact ih
    | none =>
      rw [hl] at h
      simp only at h
      split at h
      · rename_i ht
        cases h
        rw [if_pos hp]
        have hn : lastT (s.filter P) i = none := lastT_none (fun x hx => last_none hl x (List.mem_filter.1 hx).1)
        unfold lastT
        rw [hn]
        simp only
        rw [if_pos ht]
      · cases h
theorem last_max {i : Int} : ∀ {s : List Tn} {v : Tn}, SRise s → lastT s i = some v → ∀ x ∈ s, x.id = i → x.sq ≤ v.sq
  | [], v, _, h, _, _, _ => by cases h
  | t :: s, v, hr, h, x, hx, hi => by
    obtain ⟨h1, h2⟩ := List.pairwise_cons.1 hr
    unfold lastT at h
    cases hl : lastT s i with
    | some u =>
      rw [hl] at h
      cases h
      rcases List.mem_cons.1 hx with rfl | hx
      · have := h1 v (last_id hl).2
        omega
      · exact last_max h2 hl x hx hi
    | none =>
      rw [hl] at h
      simp only at h
      rcases List.mem_cons.1 hx with rfl | hx
      · rw [if_pos hi] at h
        cases h
        exact Int.le_refl _
      · exact absurd hi (last_none hl x hx)
/-- Turns up to a step, from another one on, and up to a cursor go on as all do. -/
theorem upl_chain {l : List Tn} (hr : SRise l) (hc : chainT l) (a b c : Int) : chainT (upl l a b c) := by
  intro p t q e u hu
  unfold upl at e
  obtain ⟨l1, l2, e1, e2, e3⟩ := List.filter_eq_append_iff.1 e
  obtain ⟨m1, m2, f1, f2, f3, f4⟩ := List.filter_eq_cons_iff.1 e3
  have hl : l = (l1 ++ m1) ++ t :: m2 := by rw [e1, f1]; simp
  have ht := of_decide_eq_true f3
  have hs : SRise ((l1 ++ m1) ++ t :: m2) := hl ▸ hr
  obtain ⟨s1, s2, s3⟩ := List.pairwise_append.1 hs
  obtain ⟨P, hP⟩ : ∃ P : Tn → Bool, P = fun t => decide (a < t.sq ∧ t.sq ≤ b ∧ t.id ≤ c) := ⟨_, rfl⟩
  have hp : (l1 ++ m1).filter P = p := by
    rw [List.filter_append, hP, e2, List.filter_eq_nil_iff.2 f2, List.append_nil]
  obtain ⟨u1, u2⟩ := last_id hu
  rw [← hp] at u2
  obtain ⟨u3, u4⟩ := List.mem_filter.1 u2
  rw [hP] at u4
  have u4 := of_decide_eq_true u4
  cases hv : lastT (l1 ++ m1) t.id with
  | none => exact absurd u1 (last_none hv u u3)
  | some v =>
    have hm := last_max s1 hv u u3 u1
    obtain ⟨v1, v2⟩ := last_id hv
    have hv2 := s3 v v2 t List.mem_cons_self
    have hPv : P v = true := by
      rw [hP]
      refine decide_eq_true ⟨by omega, by omega, ?_⟩
      rw [v1]
      exact ht.2.2
    have := last_filter P t.id hv hPv
    rw [hp, hu] at this
    cases this
    exact hc _ t m2 hl u hv
theorem upl_ok {l : List Tn} (h : ∀ t ∈ l, okT2 t) (a b c : Int) : ∀ t ∈ upl l a b c, okT2 t := fun t ht => h t (upl_mem.1 ht).1
theorem goes_srise {l : List Tn} (h : goes l = true) : SRise l := by
  rw [SRise, List.pairwise_iff_getElem]
  have step : ∀ k (hk : k + 1 < l.length), (l[k]'(by omega)).sq < l[k + 1].sq := fun k hk => by
    have := goes_at h hk
    rw [goAt_here hk, Bool.and_eq_true, Bool.and_eq_true] at this
    have h1 := of_decide_eq_true this.1.2
    have e : sqAt l (k + 1) = (l[k]'(by omega)).sq := by
      show ((l[k]?).map (·.sq)).getD 0 = _
      rw [List.getElem?_eq_getElem (by omega)]
      rfl
    rw [e] at h1
    rcases h1 with h1 | h1
    · cases h1
    · exact h1
  intro i j hi hj hij
  obtain ⟨d, rfl⟩ : ∃ d, j = i + 1 + d := ⟨j - i - 1, by omega⟩
  clear hij
  induction d with
  | zero => exact step i hj
  | succ d ih => exact Int.lt_trans (ih (by omega)) (step (i + 1 + d) hj)
theorem fits_pre {m : KV Cd} {a b : List Tn} (hf : FitsT m (a ++ b)) : FitsT m a :=
  ⟨fun p t q e hn => hf.one p t (q ++ b) (by rw [e]; simp) hn, fun t ht u hu => hf.two t (List.mem_append_left _ ht) u (List.mem_append_left _ hu), fun t ht => hf.three t (List.mem_append_left _ ht)⟩
theorem chain_pre {a b : List Tn} (h : chainT (a ++ b)) : chainT a := fun p t q e u hu => h p t (q ++ b) (by rw [e]; simp) u hu
/-- One cut: how many turns, up to which step. -/
def cutN (u : List Tn) (page : Nat) : Nat := best u page u.length
/-- How far cuts have come. -/
structure CutAt (l : List Tn) (cs : List Cd) (u0 : List Tn) (page : Nat) (now c : Int) (i : Nat) (at' : Int) (hv : List Cd) : Prop where
  le : at' ≤ now
  at_ : ∃ p, p ≤ u0.length ∧ upl l at' now c = u0.drop p ∧ apOut cs (net (u0.take p)) = some hv ∧ (at' = now ∧ p = u0.length ∨ i * page ≤ p)
theorem apOut_nil (cs : List Cd) : apOut cs [] = some cs := by
  show some ((toKV cs).map (·.2)) = _
  rw [toKV_snd]
theorem CutAt.start {l : List Tn} {cs : List Cd} {page : Nat} {now c a : Int} (ha : a ≤ now) : CutAt l cs (upl l a now c) page now c 0 a cs :=
  ⟨ha, 0, Nat.zero_le _, rfl, by rw [List.take_zero]; exact apOut_nil cs, .inr (by omega)⟩
theorem CutAt.step {l : List Tn} {cs : List Cd} {page : Nat} {now c a at' : Int} {i : Nat} {hv : List Cd} (hg : goes l = true) (hr : CRise cs) (hc : ∀ x ∈ cs, ckc x = true)
    (hf : FitsT (toKV cs) (upl l a now c)) (h : CutAt l cs (upl l a now c) page now c i at' hv) :
    ∃ hv', apOut hv (net ((upl l at' now c).take (cutN (upl l at' now c) page))) = some hv' ∧ at' ≤ stepAt (upl l at' now c) now (cutN (upl l at' now c) page) ∧
      CutAt l cs (upl l a now c) page now c (i + 1) (stepAt (upl l at' now c) now (cutN (upl l at' now c) page)) hv' := by
  have hs := goes_srise hg
  obtain ⟨u0, hu0⟩ : ∃ u0, u0 = upl l a now c := ⟨_, rfl⟩
  have hch : chainT u0 := by rw [hu0]; exact upl_chain hs (goes_chain hg) _ _ _
  have hok : ∀ t ∈ u0, okT2 t := by rw [hu0]; exact upl_ok (goes_okT2 hg) _ _ _
  rw [← hu0] at h hf ⊢
  obtain ⟨hle, p, p1, p2, p3, p4⟩ := h
  obtain ⟨u, hu⟩ : ∃ u, u = upl l at' now c := ⟨_, rfl⟩
  obtain ⟨n, hn⟩ : ∃ n, n = cutN u page := ⟨_, rfl⟩
  have hnl : n ≤ u.length := by rw [hn]; exact best_le _ _ _
  have hb : ∀ t ∈ u, at' < t.sq ∧ t.sq ≤ now := fun t ht => by
    rw [hu] at ht
    have := upl_mem.1 ht
    exact ⟨this.2.1, this.2.2.1⟩
  obtain ⟨s1, s2⟩ := step_most (n := n) hb hle
  obtain ⟨c1, c2⟩ := upl_cut hs (c := c) hle (n := n) (by rw [← hu]; exact hnl)
  rw [← hu] at c1 c2 p2 ⊢
  rw [← hn]
  have hul : u.length = u0.length - p := by rw [p2, List.length_drop]
  have e : u0.take p ++ u.take n = u0.take (p + n) := by rw [p2, List.take_add]
  have hpre : u0.take (p + n) ++ u0.drop (p + n) = u0 := List.take_append_drop _ _
  have hf2 : FitsT (toKV cs) (u0.take p ++ u.take n) := by rw [e]; exact fits_pre (b := u0.drop (p + n)) (by rw [hpre]; exact hf)
  have hch2 : chainT (u0.take p ++ u.take n) := by rw [e]; exact chain_pre (b := u0.drop (p + n)) (by rw [hpre]; exact hch)
  have hok2 : ∀ t ∈ u0.take p ++ u.take n, okT2 t := by rw [e]; exact fun t ht => hok t (List.mem_of_mem_take ht)
  obtain ⟨ma, mb, h1, h2, h3⟩ := net_twice (toKV_rise hr) (shown_of hc) hok2 hch2 hf2
  rw [e] at h3
  have ha : hv = ma.map (·.2) := by
    unfold apOut at p3
    rw [h1] at p3
    cases p3
    rfl
  have hka := kown_is (app_own (kown_toKV cs) h1)
  refine ⟨mb.map (·.2), ?_, s1, s2, p + n, by omega, ?_, ?_, ?_⟩
  · rw [ha]
    unfold apOut
    rw [hka, h2]
    rfl
  · rw [c2, p2, List.drop_drop]
  · unfold apOut
    rw [h3]
    rfl
  · rcases Nat.lt_or_ge n u.length with hlt | hge
    · refine .inr ?_
      have hpg : page ≤ n := by rw [hn]; exact best_page (by rw [hn] at hlt; exact hlt)
      rcases p4 with ⟨_, e2⟩ | h4
      · omega
      · rw [Nat.add_mul]
        omega
    · refine .inl ⟨?_, by omega⟩
      unfold stepAt
      rw [List.getElem?_eq_none hge]
/-- They come to the end. -/
theorem CutAt.ends {l : List Tn} {cs : List Cd} {u0 : List Tn} {page : Nat} {now c at' : Int} {hv : List Cd} (hp : 1 ≤ page) (h : CutAt l cs u0 page now c (u0.length / page + 1) at' hv) :
    at' = now ∧ apOut cs (net u0) = some hv := by
  obtain ⟨_, p, p1, p2, p3, p4⟩ := h
  have hlt : u0.length < (u0.length / page + 1) * page := by
    have h1 := Nat.div_add_mod u0.length page
    have h2 := Nat.mod_lt u0.length (show page > 0 by omega)
    rw [Nat.add_mul, Nat.mul_comm (u0.length / page) page]
    omega
  rcases p4 with ⟨e1, e2⟩ | h4
  · subst e2
    rw [List.take_length] at p3
    exact ⟨e1, p3⟩
  · omega
end Go.Proofs.Ytcdmbidggikmfaa
