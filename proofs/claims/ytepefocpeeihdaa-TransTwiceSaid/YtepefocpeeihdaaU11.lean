/- What the frame gives of slices of turns, of items, of cards. -/
import Derived.Test.YtepefocpeeihdaaU3
import Derived.Test.YtepefocpeeihdaaU2
import Derived.ChangeSame
import Derived.Test.YtepefocpeeihdaaU7
import Derived.Test.YtepefocpeeihdaaU9
import Derived.Test.YtepefocpeeihdaaU10
namespace Go.Proofs.Ytepefocpeeihdaa
set_option linter.unusedVariables false
open Go Go.RowKit Go.Deep Go.ChangeShapes Go.WideShapes Go.ChangeAt

/-- What each card of an argument is. -/
structure okC (c : Cd) : Prop where
  len : okCd c
  id : (Lit.int .i64 c.1).wf = true
  ver : (Lit.int .i64 c.2.1).wf = true
  lab : ∃ x : BitVec 32, c.2.2.1 = (x.toNat : Int)
  f : ∀ v ∈ c.2.2.2, okV v
structure okT (t : Tn) : Prop where
  cd : okC t.cd
  sq : (Lit.int .i64 t.sq).wf = true
  id : (Lit.int .i64 t.id).wf = true
  old : (Lit.int .i64 t.old).wf = true
  nw : (Lit.int .i64 t.nw).wf = true
structure okI (x : Im) : Prop where
  cd : okC x.cd
  kd : (Lit.int .i64 x.kd).wf = true
instance : Inhabited Tn := ⟨⟨0, 0, 0, 0, zcd⟩⟩
instance : Inhabited Im := ⟨⟨0, zcd⟩⟩
section
variable {H : Type} {enc : TypeId × Value → H} {W : World}
set_option maxRecDepth 100000 in
theorem trod_cd {n : Nat} {cs : List Value} {x : DataW H × List MemPlace} (h : DataW.trod enc Try.prog W 0 (fun _ => true) true n 30 cs = some x) : ∃ c : Cd, cs = ccl c ∧ okC c := by
  obtain ⟨y0, y1, y2, y3, m, _, hl, h0, h1, h2, h3⟩ := Go.Joins.trod_struct4 Try.underlying30 h
  have c1 : Try.prog.cellsOf 3 = 1 := by kernel_rfl
  have c2 : Try.prog.cellsOf 25 = 1 := by kernel_rfl
  have c8 : Try.prog.cellsOf 28 = 24 := by kernel_rfl
  have c27 : Try.prog.cellsOf 30 = 27 := by kernel_rfl
  rw [c27] at hl
  simp only [c1] at h0 h1
  simp only [c2] at h2
  simp only [c8] at h3
  obtain ⟨a, e0, _, w0⟩ := DataW.trod_int Try.underlying3 h0
  obtain ⟨b, e1, _, w1⟩ := DataW.trod_int Try.underlying3 h1
  obtain ⟨c, e2, _, w2⟩ := DataW.trod_int Try.underlying25 h2
  obtain ⟨f, e3, hf8, hok⟩ := trod_fields h3
  obtain ⟨x, rfl⟩ := u32_wf w2
  refine ⟨(a, b, x.toNat, f), ?_, hf8, w0, w1, ⟨x, rfl⟩, hok⟩
  have e4 : cs.take 3 = [.int .i64 a, .int .i64 b, .int .u32 (x.toNat : Int)] := list3 (by rw [List.length_take, hl]; rfl) (by simpa [List.take_take, List.drop_take] using e0) (by simpa [List.take_take, List.drop_take] using e1) (by simpa [List.take_take, List.drop_take] using e2)
  rw [← List.take_append_drop 3 cs, e4]
  unfold ccl ccells
  rw [← e3, List.take_of_length_le (by rw [List.length_drop, hl]; omega)]
theorem list4 {α : Type} {l : List α} {a b c d : α} (hl : l.length = 4) (h0 : (l.drop 0).take 1 = [a]) (h1 : (l.drop 1).take 1 = [b]) (h2 : (l.drop 2).take 1 = [c]) (h3 : (l.drop 3).take 1 = [d]) : l = [a, b, c, d] := by
  match l, hl with
  | [x, y, z, u], _ => simp at h0 h1 h2 h3; rw [h0, h1, h2, h3]
set_option maxRecDepth 100000 in
theorem trod_tn {n : Nat} {cs : List Value} {x : DataW H × List MemPlace} (h : DataW.trod enc Try.prog W 0 (fun _ => true) true n 32 cs = some x) : ∃ t : Tn, cs = tcl t ∧ okT t := by
  obtain ⟨y0, y1, y2, y3, y4, m, _, hl, h0, h1, h2, h3, h4⟩ := trod_struct5 Try.underlying32 h
  have c1 : Try.prog.cellsOf 3 = 1 := by kernel_rfl
  have c27 : Try.prog.cellsOf 30 = 27 := by kernel_rfl
  have c31 : Try.prog.cellsOf 32 = 31 := by kernel_rfl
  rw [c31] at hl
  simp only [c1] at h0 h1 h2 h3
  simp only [c27] at h4
  obtain ⟨a, e0, _, w0⟩ := DataW.trod_int Try.underlying3 h0
  obtain ⟨b, e1, _, w1⟩ := DataW.trod_int Try.underlying3 h1
  obtain ⟨c, e2, _, w2⟩ := DataW.trod_int Try.underlying3 h2
  obtain ⟨d, e3, _, w3⟩ := DataW.trod_int Try.underlying3 h3
  obtain ⟨cd, e4, okc⟩ := trod_cd h4
  refine ⟨⟨a, b, c, d, cd⟩, ?_, okc, w0, w1, w2, w3⟩
  have e5 : cs.take 4 = [.int .i64 a, .int .i64 b, .int .i64 c, .int .i64 d] := list4 (by rw [List.length_take, hl]; rfl) (by simpa [List.take_take, List.drop_take] using e0) (by simpa [List.take_take, List.drop_take] using e1) (by simpa [List.take_take, List.drop_take] using e2) (by simpa [List.take_take, List.drop_take] using e3)
  rw [← List.take_append_drop 4 cs, e5]
  unfold tcl
  rw [← e4, List.take_of_length_le (by rw [List.length_drop, hl]; omega)]
set_option maxRecDepth 100000 in
theorem trod_im {n : Nat} {cs : List Value} {x : DataW H × List MemPlace} (h : DataW.trod enc Try.prog W 0 (fun _ => true) true n 49 cs = some x) : ∃ t : Im, cs = icl t ∧ okI t := by
  obtain ⟨y0, y1, m, _, hl, h0, h1⟩ := trod_struct2 Try.underlying49 h
  have c1 : Try.prog.cellsOf 3 = 1 := by kernel_rfl
  have c27 : Try.prog.cellsOf 30 = 27 := by kernel_rfl
  have c28 : Try.prog.cellsOf 49 = 28 := by kernel_rfl
  rw [c28] at hl
  simp only [c1] at h0
  simp only [c27] at h1
  obtain ⟨a, e0, _, w0⟩ := DataW.trod_int Try.underlying3 h0
  obtain ⟨cd, e4, okc⟩ := trod_cd h1
  refine ⟨⟨a, cd⟩, ?_, okc, w0⟩
  have e5 : cs.take 1 = [.int .i64 a] := by simpa using e0
  rw [← List.take_append_drop 1 cs, e5]
  unfold icl
  rw [← e4, List.take_of_length_le (by rw [List.length_drop, hl]; omega)]
theorem open_turns {r : Reach} {base : Nat} {v : Value} {d : DataW H} {ps : List MemPlace}
    (hv : Value.okWide Try.prog W r base 22 v) (h : DataW.Trod enc Try.prog W 0 (fun _ => true) true 22 v d ps) :
    ∃ A n c, ∃ l : List Tn, v = .slice A n c ∧ SeesR tcl W A n c l ∧ ∀ t ∈ l, okT t := by
  obtain ⟨A, n, c, l, e, hnc, hcm, hln, hok, hs⟩ := open_rows (f := tcl) (sz := 31) (ok := okT) Try.underlying22 (by kernel_rfl) (by decide) (fun t ht => tcl_len ht.cd.len) (fun n cs x h => trod_tn h) hv h
  exact ⟨A, n, c, l, e, ⟨hln, hnc, hcm, hs⟩, hok⟩
theorem open_items {r : Reach} {base : Nat} {v : Value} {d : DataW H} {ps : List MemPlace}
    (hv : Value.okWide Try.prog W r base 36 v) (h : DataW.Trod enc Try.prog W 0 (fun _ => true) true 36 v d ps) :
    ∃ A n c, ∃ l : List Im, v = .slice A n c ∧ SeesR icl W A n c l ∧ ∀ t ∈ l, okI t := by
  obtain ⟨A, n, c, l, e, hnc, hcm, hln, hok, hs⟩ := open_rows (f := icl) (sz := 28) (ok := okI) Try.underlying36 (by kernel_rfl) (by decide) (fun t ht => icl_len ht.cd.len) (fun n cs x h => trod_im h) hv h
  exact ⟨A, n, c, l, e, ⟨hln, hnc, hcm, hs⟩, hok⟩
theorem open_cds {r : Reach} {base : Nat} {v : Value} {d : DataW H} {ps : List MemPlace}
    (hv : Value.okWide Try.prog W r base 38 v) (h : DataW.Trod enc Try.prog W 0 (fun _ => true) true 38 v d ps) :
    ∃ A n c, ∃ l : List Cd, v = .slice A n c ∧ SeesR ccl W A n c l ∧ ∀ t ∈ l, okC t := by
  obtain ⟨A, n, c, l, e, hnc, hcm, hln, hok, hs⟩ := open_rows (f := ccl) (sz := 27) (ok := okC) Try.underlying38 (by kernel_rfl) (by decide) (fun t ht => ccl_len ht.len) (fun n cs x h => trod_cd h) hv h
  exact ⟨A, n, c, l, e, ⟨hln, hnc, hcm, hs⟩, hok⟩
end
end Go.Proofs.Ytepefocpeeihdaa

/- Which items may be: the document's CheckItems. -/
namespace Go.Proofs.Ytepefocpeeihdaa
set_option linter.unusedVariables false
set_option linter.unusedSimpArgs false
open Go Go.RowKit BitM
set_option maxRecDepth 100000 in
set_option maxHeartbeats 6400000 in
theorem rigoes_any (A : Option Addr) (n c : Nat) (L : List Im) (w : World) (h : SeesR icl w A n c L) (hok : ∀ t ∈ L, okCd t.cd) (hz : n ≤ 65536) :
    Calls Try.prog 20 #[.slice A n c] w fun e w' => e = .returned (.bool (igoes L)) ∧ Below w.heap.size w w' := by
  have hui := Try.underlying49
  have huc := Try.underlying30
  have HN := Lib.hid h.len
  obtain ⟨R, hR⟩ : ∃ R, R = igoes L := ⟨_, rfl⟩
  rw [← hR]
  have HF0 := Lib.hid (fun k (hk : k < L.length) (e : imay L[k] = false) => show R = false by rw [hR]; exact i_no hk e)
  have HF1 := Lib.hid (fun k (hk : k < L.length) (e : ¬ (1 ≤ rkey L[k] ∧ rkey L[k] < 1073741824 ∧ keyAt L k < rkey L[k])) => show R = false by rw [hR]; exact i_key hk e)
  have HALL := Lib.hid (fun (e : iTo L L.length = true) => show R = true by rw [hR]; exact e)
  have HCK := Lib.hid (fun k (hk : k < L.length) wx => rccheck_any L[k].cd.1 L[k].cd.2.1 L[k].cd.2.2.1 L[k].cd.2.2.2 wx (hok _ (List.getElem_mem hk)))
  have HEQ := Lib.hid (fun k (hk : k < L.length) wx => eq_ccl L[k].cd (L[k].cd.1, 0, 0, zeros) (hok _ (List.getElem_mem hk)) rfl wx)
  have HOKK := Lib.hid (fun k (hk : k < L.length) => hok _ (List.getElem_mem hk))
  have HCE : Hid (∀ k, k < L.length → ∃ b o, A = some ⟨b, o, none⟩ ∧ ∀ W, Below w.heap.size w W → ∀ k (hk : k < L.length), W.cell? ⟨b, o + k * 28, none⟩ = some (.int .i64 L[k].kd) ∧ W.cell? ⟨b, o + k * 28 + 1, none⟩ = some (.int .i64 (rkey L[k])) ∧
      W.rangeAt b (o + k * 28) (icl L[k]) ∧ W.rangeAt b (o + k * 28 + 1) (ccl L[k].cd)) := Lib.hid (fun k hk => by
    obtain ⟨b, o, e, _, hc⟩ := item_cells h hok (by omega)
    exact ⟨b, o, e, fun W hW k hk => hc W hW k hk⟩)
  obtain ⟨Z, hZ⟩ : ∃ Z, Z = ccl zcd := ⟨_, rfl⟩
  have HZL := Lib.hid (show Z.length = 27 by rw [hZ]; rfl)
  have HZZ : Hid (Z.toArray = #[Value.int .i64 0, .int .i64 0, .int .u32 0, .int .i64 0, .int .i64 0, .string { data := #[] }, .int .i64 0, .int .i64 0, .string { data := #[] }, .int .i64 0, .int .i64 0, .string { data := #[] }, .int .i64 0, .int .i64 0, .string { data := #[] }, .int .i64 0, .int .i64 0, .string { data := #[] }, .int .i64 0, .int .i64 0, .string { data := #[] }, .int .i64 0, .int .i64 0, .string { data := #[] }, .int .i64 0, .int .i64 0, .string { data := #[] }]) := Lib.hid (by rw [hZ]; exact zc27i)
  clear hR h hok hZ
  go_enter Try.func20, Try.ntmps20
  go_wp2_with fail
  go_loopw [3] (fun i wr => ∃ k : Nat, k ≤ n ∧ i = .int .i64 (k : Int) ∧ Hid (iTo L k = true) ∧ Hid (Below w.heap.size w wr)) (fun i _ => n - (iOf i).toNat)
  case atStart => exact ⟨0, by omega, rfl, Lib.hid rfl, Lib.hid (Below.refl _ _)⟩
  case round =>
    obtain ⟨k, hk, rfl, HK, HB⟩ := hrel
    by_cases hlt : k < n
    · have d0 : decide ((k : Int) < (n : Int)) = true := decide_eq_true (by omega)
      have hkl : k < L.length := by rw [HN.out]; exact hlt
      obtain ⟨b, o, rfl, hcc⟩ := HCE.out k hkl
      have HCC := Lib.hid hcc
      have HNX := Lib.hid (i_next hkl HK.out)
      have HNM := Lib.hid (HF0.out k hkl)
      have HNK := Lib.hid (HF1.out k hkl)
      have HKL := Lib.hid (key_low (Nat.le_of_lt hkl) HK.out)
      have HKS := Lib.hid (key_succ hkl)
      have HOK := Lib.hid (HOKK.out k hkl)
      have HCL := Lib.hid (ccl_len HOK.out)
      have HC1 := Lib.hid (ccl_one L[k].cd)
      have HE := Lib.hid (HEQ.out k hkl)
      have HC := Lib.hid (HCK.out k hkl)
      have HM13 := Lib.hid (imay_13 (x := L[k]))
      have HM2 := Lib.hid (imay_2 (x := L[k]))
      have HME := Lib.hid (imay_else (x := L[k]))
      have HCID : Hid (∀ W g, Blk W g (ccl L[k].cd) → W.cell? ⟨g, 0, none⟩ = some (.int .i64 (rkey L[k]))) := Lib.hid (fun W g hW => hW.cell (j := 0) rfl)
      have hrc := (HCC.out wr HB.out k hkl).2.2.2
      have hkd := fun W hW => (HCC.out W hW k hkl).1
      have HKD := Lib.hid hkd
      have HPREV : Hid (∀ m (hm : k = m + 1), ∀ W, Below w.heap.size w W → W.cell? ⟨b, o + m * 28 + 1, none⟩ = some (.int .i64 (keyAt L k))) := Lib.hid (fun m hm W hW => by
        subst hm
        rw [key_succ (by omega)]
        exact (HCC.out W hW m (by omega)).2.1)
      have HK0 : Hid (k = 0 → keyAt L k = 0) := Lib.hid (fun e => by subst e; rfl)
      clear hkd
      obtain ⟨CC, hCC⟩ : ∃ CC, CC = ccl L[k].cd := ⟨_, rfl⟩
      have HC' : Hid (∀ wx, Calls Try.prog 24 #[.agg CC.toArray] wx fun e w' => e = .returned (.bool (ckc L[k].cd)) ∧ Below wx.heap.size wx w') := Lib.hid (fun wx => by rw [hCC]; exact HC.out wx)
      rw [← hCC] at hrc HCL HC1 HE HCID
      obtain ⟨CD, hCD⟩ : ∃ CD, CD = ccl (rkey L[k], 0, 0, zeros) := ⟨_, rfl⟩
      have HE' : Hid (∀ wx : World, (Op.equalIn 10000 30 (.agg CC.toArray) (.agg CD.toArray)).run Try.prog wx = .ok (decide (L[k].cd = (rkey L[k], 0, 0, zeros))) wx) := Lib.hid (fun wx => by rw [hCD]; exact HE.out wx)
      have HM2' : Hid (L[k].kd = 2 → imay L[k] = decide (L[k].cd = (rkey L[k], 0, 0, zeros))) := Lib.hid HM2.out
      have HCB : Hid (∀ (a : Act) (op : Oper) (y : Operand), op.op = .build 30 #[(0, y)] → a.eval y = .int .i64 (rkey L[k]) → ∀ wx, (execOp a.eval op).run Try.prog wx = .ok (.value (.agg CD.toArray)) wx) := Lib.hid (fun a op y ho hy wx => by rw [hCD]; exact exec_cid y ho _ hy wx)
      generalize imay L[k] = im at HNX HNM HM13 HM2' HME
      generalize ckc L[k].cd = ck at HM13 HC'
      generalize decide (L[k].cd = (rkey L[k], 0, 0, zeros)) = eq at HE' HM2'
      generalize rkey L[k] = x at HNX HNK HKS HCID HCB
      generalize keyAt L k = y at HNX HNK HKL HPREV HK0
      generalize L[k].kd = kd at HM13 HM2' HME HKD
      clear hcc hCC hCD HCC HF0 HF1 HALL HCK HEQ HOKK HCE HK HC HE HM2 HOK
      have B2 := Blk.new wr Z 30
      have hb3 := (Below.refl wr.heap.size wr).alloc (Nat.le_refl _) (.cells Z.toArray 30)
      have TH2 := B2.there 0 27 (by rw [HZL.out]; omega)
      obtain ⟨W2, hW2⟩ : ∃ W2, W2 = (wr.alloc (.cells Z.toArray 30)).setCells wr.heap.size 0 CC := ⟨_, rfl⟩
      have BC : Blk W2 wr.heap.size CC := by rw [hW2]; exact B2.whole (by rw [HZL.out, HCL.out])
      have hb4 : Below wr.heap.size wr W2 := by rw [hW2]; exact below_sets (Nat.le_refl _) _ _ hb3
      have HB2 := Lib.hid (HB.out.trans (hb4.mono HB.out.size))
      have HBC := Lib.hid BC
      have HW2 := Lib.hid hW2
      have HBW : Hid (∀ W, Le W2 W → Below w.heap.size w W) := Lib.hid (fun W hl => HB2.out.trans (hl.mono HB2.out.size))
      have HXW : Hid (∀ W, Le W2 W → W.cell? ⟨wr.heap.size, 0, none⟩ = some (.int .i64 x)) := Lib.hid (fun W hl => HCID.out W _ (HBC.out.later hl))
      have cx : ∀ kk : LW W2, kk.val.cell? ⟨wr.heap.size, 0, none⟩ = some (.int .i64 x) := fun kk => HXW.out _ kk.le
      rw [HZZ.out] at TH2
      clear B2 hb3 hW2 BC hb4
      by_cases z1 : x < 1
      · have e1 : decide (x < 1) = true := decide_eq_true z1
        have HR : Hid (R = false) := Lib.hid (HNK.out (by omega))
        clear z1
        go_wp2_with (first
          | (refine wpList_load_mid rfl 30 (.tmp 14) rfl b (o + k * 28 + 1) rfl CC _ hrc huc rfl (by rw [HCL.out]; exact info_card) ?_
             simp only [Act.put, List.setIfInBounds_toArray, List.set_cons_zero, List.set_cons_succ])
          | (refine wpList_store_mid rfl 30 (.tmp 4) (.tmp 15) rfl wr.heap.size 0 CC.toArray rfl rfl (by simpa [HCL.out] using TH2) (by simpa [HCL.out] using info_card) (all_oneCell_toArray HC1.out) ?_
             rw [← HZZ.out, ← HW2.out]
             clear TH2 hrc)
          | fail)
        refine wp_region_steady [] 58 (by kernel_rfl) (by kernel_rfl) (by kernel_rfl) (by rfl) ?_
        simp only [Act.put, List.setIfInBounds_toArray, List.set_cons_zero, List.set_cons_succ]
        iterate 4 (refine wpG_quiet (by rfl) (by rfl) (by rfl) (fun K hK => ?_); go_big_quiet_op; refine hK _ ?_; clear hK K)
        iterate 3 (refine wpG_skip (by rfl) ?_; simp only [Act.put, List.setIfInBounds_toArray, List.set_cons_zero, List.set_cons_succ])
        iterate 2 (refine wpG_quiet (by rfl) (by rfl) (by rfl) (fun K hK => ?_); go_big_quiet_op; refine hK _ ?_; clear hK K)
        iterate 14 (refine wpG_skip (by rfl) ?_; simp only [Act.put, List.setIfInBounds_toArray, List.set_cons_zero, List.set_cons_succ])
        iterate 1 (refine wpG_quiet (by rfl) (by rfl) (by rfl) (fun K hK => ?_); go_big_quiet_op; refine hK _ ?_; clear hK K)
        refine wpG_nil fun w3 hl _ => ?_
        have HB3 := Lib.hid (HBW.out w3 hl)
        clear HBW
        go_wp2_with fail
        go_ret
        exact ⟨by rw [HR.out]; rfl, HB3.out⟩
      · have e1 : decide (x < 1) = false := decide_eq_false z1
        by_cases z2 : 1073741824 ≤ x
        · have e2 : decide (1073741824 ≤ x) = true := decide_eq_true z2
          have HR : Hid (R = false) := Lib.hid (HNK.out (by omega))
          clear z1 z2
          go_wp2_with (first
            | (refine wpList_load_mid rfl 30 (.tmp 14) rfl b (o + k * 28 + 1) rfl CC _ hrc huc rfl (by rw [HCL.out]; exact info_card) ?_
               simp only [Act.put, List.setIfInBounds_toArray, List.set_cons_zero, List.set_cons_succ])
            | (refine wpList_store_mid rfl 30 (.tmp 4) (.tmp 15) rfl wr.heap.size 0 CC.toArray rfl rfl (by simpa [HCL.out] using TH2) (by simpa [HCL.out] using info_card) (all_oneCell_toArray HC1.out) ?_
               rw [← HZZ.out, ← HW2.out]
               clear TH2 hrc)
            | fail)
          refine wp_region_steady [] 58 (by kernel_rfl) (by kernel_rfl) (by kernel_rfl) (by rfl) ?_
          simp only [Act.put, List.setIfInBounds_toArray, List.set_cons_zero, List.set_cons_succ]
          iterate 9 (refine wpG_quiet (by rfl) (by rfl) (by rfl) (fun K hK => ?_); go_big_quiet_op; refine hK _ ?_; clear hK K)
          iterate 14 (refine wpG_skip (by rfl) ?_; simp only [Act.put, List.setIfInBounds_toArray, List.set_cons_zero, List.set_cons_succ])
          iterate 1 (refine wpG_quiet (by rfl) (by rfl) (by rfl) (fun K hK => ?_); go_big_quiet_op; refine hK _ ?_; clear hK K)
          refine wpG_nil fun w3 hl _ => ?_
          have HB3 := Lib.hid (HBW.out w3 hl)
          clear HBW
          go_wp2_with fail
          go_ret
          exact ⟨by rw [HR.out]; rfl, HB3.out⟩
        · have e2 : decide (1073741824 ≤ x) = false := decide_eq_false z2
          by_cases h0 : k = 0
          · have d1 : decide ((0 : Int) < (k : Int)) = false := decide_eq_false (by omega)
            have d1' : decide (0 < k) = false := decide_eq_false (by omega)
            have hy0 := HK0.out h0
            have HRNG : Hid (1 ≤ x ∧ x < 1073741824 ∧ y < x) := Lib.hid (by omega)
            clear h0 z1 z2 hy0
            go_wp2_with (first
              | (refine wpList_load_mid rfl 30 (.tmp 14) rfl b (o + k * 28 + 1) rfl CC _ hrc huc rfl (by rw [HCL.out]; exact info_card) ?_
                 simp only [Act.put, List.setIfInBounds_toArray, List.set_cons_zero, List.set_cons_succ])
              | (refine wpList_store_mid rfl 30 (.tmp 4) (.tmp 15) rfl wr.heap.size 0 CC.toArray rfl rfl (by simpa [HCL.out] using TH2) (by simpa [HCL.out] using info_card) (all_oneCell_toArray HC1.out) ?_
                 rw [← HZZ.out, ← HW2.out]
                 clear TH2 hrc)
              | fail)
            refine wp_region_steady [] 58 (by kernel_rfl) (by kernel_rfl) (by kernel_rfl) (by rfl) ?_
            simp only [Act.put, List.setIfInBounds_toArray, List.set_cons_zero, List.set_cons_succ]
            iterate 12 (refine wpG_quiet (by rfl) (by rfl) (by rfl) (fun K hK => ?_); go_big_quiet_op; refine hK _ ?_; clear hK K)
            iterate 10 (refine wpG_skip (by rfl) ?_; simp only [Act.put, List.setIfInBounds_toArray, List.set_cons_zero, List.set_cons_succ])
            iterate 2 (refine wpG_quiet (by rfl) (by rfl) (by rfl) (fun K hK => ?_); go_big_quiet_op; refine hK _ ?_; clear hK K)
            refine wpG_nil fun w3 hl _ => ?_
            have HB3 := Lib.hid (HBW.out w3 hl)
            have HB3C := Lib.hid (HBC.out.later hl)
            have k0 := HKD.out w3 HB3.out
            have RG := HB3C.out.wholeC
            have x0 := HCID.out w3 _ HB3C.out
            have HGO : Hid (im = true → iTo L (k + 1) = true) := Lib.hid (fun e => HNX.out e (HRNG.out))
            clear HBW cx HXW hl HCID HKD HPREV HNK HNX
            by_cases hk1 : kd = 1
            · have f1 : decide (kd = 1) = true := decide_eq_true hk1
              have f1' : (kd == 1) = true := by simpa using f1
              have HIM0 := Lib.hid (HM13.out (.inl hk1))
              clear hk1
              go_wp2_with (first
                | (refine wpList_load_mid rfl 30 (.tmp 4) rfl wr.heap.size 0 rfl CC _ RG huc rfl (by rw [HCL.out]; exact info_card) ?_
                   simp only [Act.put, List.setIfInBounds_toArray, List.set_cons_zero, List.set_cons_succ])
                | fail)
              refine (HC'.out _).mono ?_
              rintro e w4 ⟨rfl, hb5⟩
              have HB4 := Lib.hid (HB3.out.trans (hb5.mono HB3.out.size))
              clear hb5 x0 RG k0 HC'
              cases ck with
              | false =>
                have HR : Hid (R = false) := Lib.hid (HNM.out HIM0.out)
                go_wp2_with fail
                go_ret
                exact ⟨by rw [HR.out]; rfl, HB4.out⟩
              | true =>
                have HG := Lib.hid (HGO.out HIM0.out)
                go_wp2_with fail
                go_roundw
                case rel => exact ⟨k + 1, by omega, by go_num, HG, HB4⟩
                case measure => simp [iOf]; omega
            · by_cases hk3 : kd = 3
              · have f1 : decide (kd = 1) = false := decide_eq_false hk1
                have f1' : (kd == 1) = false := by simpa using f1
                have f3 : decide (kd = 3) = true := decide_eq_true hk3
                have f3' : (kd == 3) = true := by simpa using f3
                have HIM0 := Lib.hid (HM13.out (.inr hk3))
                clear hk1 hk3
                go_wp2_with (first
                  | (refine wpList_load_mid rfl 30 (.tmp 4) rfl wr.heap.size 0 rfl CC _ RG huc rfl (by rw [HCL.out]; exact info_card) ?_
                     simp only [Act.put, List.setIfInBounds_toArray, List.set_cons_zero, List.set_cons_succ])
                  | fail)
                refine (HC'.out _).mono ?_
                rintro e w4 ⟨rfl, hb5⟩
                have HB4 := Lib.hid (HB3.out.trans (hb5.mono HB3.out.size))
                clear hb5 x0 RG k0 HC'
                cases ck with
                | false =>
                  have HR : Hid (R = false) := Lib.hid (HNM.out HIM0.out)
                  go_wp2_with fail
                  go_ret
                  exact ⟨by rw [HR.out]; rfl, HB4.out⟩
                | true =>
                  have HG := Lib.hid (HGO.out HIM0.out)
                  go_wp2_with fail
                  go_roundw
                  case rel => exact ⟨k + 1, by omega, by go_num, HG, HB4⟩
                  case measure => simp [iOf]; omega
              · have f1 : decide (kd = 1) = false := decide_eq_false hk1
                have f1' : (kd == 1) = false := by simpa using f1
                have f3 : decide (kd = 3) = false := decide_eq_false hk3
                have f3' : (kd == 3) = false := by simpa using f3
                by_cases hk2 : kd = 2
                · have f2 : decide (kd = 2) = true := decide_eq_true hk2
                  have f2' : (kd == 2) = true := by simpa using f2
                  have HIM0 := Lib.hid (HM2'.out hk2)
                  clear hk1 hk2 hk3
                  cases eq with
                  | false =>
                    have HR : Hid (R = false) := Lib.hid (HNM.out HIM0.out)
                    go_wp2_with (first
                      | (refine wpList_load_mid rfl 30 (.tmp 4) rfl wr.heap.size 0 rfl CC _ RG huc rfl (by rw [HCL.out]; exact info_card) ?_
                         simp only [Act.put, List.setIfInBounds_toArray, List.set_cons_zero, List.set_cons_succ])
                      | (refine wpList_exec (by rfl) (.agg CD.toArray) (HCB.out _ _ (.tmp 55) rfl rfl _) ?_
                         simp only [Act.put, List.setIfInBounds_toArray, List.set_cons_zero, List.set_cons_succ])
                      | (refine wpList_exec (by rfl) (.bool (!false)) (exec_neq 30 _ (.tmp 53) (.tmp 56) rfl _ _ rfl rfl guard_card false (HE'.out _)) ?_
                         simp only [Act.put, List.setIfInBounds_toArray, List.set_cons_zero, List.set_cons_succ]
                         simp only [Bool.not_true, Bool.not_false])
                      | fail)
                    go_ret
                    exact ⟨by rw [HR.out]; rfl, HB3.out⟩
                  | true =>
                    have HG := Lib.hid (HGO.out HIM0.out)
                    go_wp2_with (first
                      | (refine wpList_load_mid rfl 30 (.tmp 4) rfl wr.heap.size 0 rfl CC _ RG huc rfl (by rw [HCL.out]; exact info_card) ?_
                         simp only [Act.put, List.setIfInBounds_toArray, List.set_cons_zero, List.set_cons_succ])
                      | (refine wpList_exec (by rfl) (.agg CD.toArray) (HCB.out _ _ (.tmp 55) rfl rfl _) ?_
                         simp only [Act.put, List.setIfInBounds_toArray, List.set_cons_zero, List.set_cons_succ])
                      | (refine wpList_exec (by rfl) (.bool (!true)) (exec_neq 30 _ (.tmp 53) (.tmp 56) rfl _ _ rfl rfl guard_card true (HE'.out _)) ?_
                         simp only [Act.put, List.setIfInBounds_toArray, List.set_cons_zero, List.set_cons_succ]
                         simp only [Bool.not_true, Bool.not_false])
                      | fail)
                    go_roundw
                    case rel => exact ⟨k + 1, by omega, by go_num, HG, HB3⟩
                    case measure => simp [iOf]; omega
                · have f2 : decide (kd = 2) = false := decide_eq_false hk2
                  have f2' : (kd == 2) = false := by simpa using f2
                  have HR : Hid (R = false) := Lib.hid (HNM.out (HME.out hk1 hk2 hk3))
                  clear hk1 hk2 hk3
                  go_wp2_with fail
                  go_ret
                  exact ⟨by rw [HR.out]; rfl, HB3.out⟩
          · obtain ⟨m, hm⟩ : ∃ m, k = m + 1 := ⟨k - 1, by omega⟩
            have d1 : decide ((0 : Int) < (k : Int)) = true := decide_eq_true (by omega)
            have d1' : decide (0 < k) = true := decide_eq_true (by omega)
            have cp : ∀ kk : LW W2, kk.val.cell? ⟨b, o + m * 28 + 1, none⟩ = some (.int .i64 y) := fun kk => HPREV.out m hm _ (HBW.out _ kk.le)
            have km : (k : Int) - 1 = (m : Int) := by omega
            have hmn : m < n := by omega
            clear hm h0
            by_cases h4 : x ≤ y
            · have d4 : decide (x ≤ y) = true := decide_eq_true h4
              have HR : Hid (R = false) := Lib.hid (HNK.out (by omega))
              clear h4 z1 z2
              go_wp2_with (first
                | (refine wpList_load_mid rfl 30 (.tmp 14) rfl b (o + k * 28 + 1) rfl CC _ hrc huc rfl (by rw [HCL.out]; exact info_card) ?_
                   simp only [Act.put, List.setIfInBounds_toArray, List.set_cons_zero, List.set_cons_succ])
                | (refine wpList_store_mid rfl 30 (.tmp 4) (.tmp 15) rfl wr.heap.size 0 CC.toArray rfl rfl (by simpa [HCL.out] using TH2) (by simpa [HCL.out] using info_card) (all_oneCell_toArray HC1.out) ?_
                   rw [← HZZ.out, ← HW2.out]
                   clear TH2 hrc)
                | fail)
              refine wp_region_steady [] 58 (by kernel_rfl) (by kernel_rfl) (by kernel_rfl) (by rfl) ?_
              simp only [Act.put, List.setIfInBounds_toArray, List.set_cons_zero, List.set_cons_succ]
              iterate 24 (refine wpG_quiet (by rfl) (by rfl) (by rfl) (fun K hK => ?_); go_big_quiet_op; refine hK _ ?_; clear hK K)
              refine wpG_nil fun w3 hl _ => ?_
              have HB3 := Lib.hid (HBW.out w3 hl)
              clear HBW
              go_wp2_with fail
              go_ret
              exact ⟨by rw [HR.out]; rfl, HB3.out⟩
            · have d4 : decide (x ≤ y) = false := decide_eq_false h4
              have HRNG : Hid (1 ≤ x ∧ x < 1073741824 ∧ y < x) := Lib.hid (by omega)
              clear h4 z1 z2
              go_wp2_with (first
                | (refine wpList_load_mid rfl 30 (.tmp 14) rfl b (o + k * 28 + 1) rfl CC _ hrc huc rfl (by rw [HCL.out]; exact info_card) ?_
                   simp only [Act.put, List.setIfInBounds_toArray, List.set_cons_zero, List.set_cons_succ])
                | (refine wpList_store_mid rfl 30 (.tmp 4) (.tmp 15) rfl wr.heap.size 0 CC.toArray rfl rfl (by simpa [HCL.out] using TH2) (by simpa [HCL.out] using info_card) (all_oneCell_toArray HC1.out) ?_
                   rw [← HZZ.out, ← HW2.out]
                   clear TH2 hrc)
                | fail)
              refine wp_region_steady [] 58 (by kernel_rfl) (by kernel_rfl) (by kernel_rfl) (by rfl) ?_
              simp only [Act.put, List.setIfInBounds_toArray, List.set_cons_zero, List.set_cons_succ]
              iterate 24 (refine wpG_quiet (by rfl) (by rfl) (by rfl) (fun K hK => ?_); go_big_quiet_op; refine hK _ ?_; clear hK K)
              refine wpG_nil fun w3 hl _ => ?_
              have HB3 := Lib.hid (HBW.out w3 hl)
              have HB3C := Lib.hid (HBC.out.later hl)
              have k0 := HKD.out w3 HB3.out
              have RG := HB3C.out.wholeC
              have x0 := HCID.out w3 _ HB3C.out
              have HGO : Hid (im = true → iTo L (k + 1) = true) := Lib.hid (fun e => HNX.out e (HRNG.out))
              clear cp km HBW cx HXW hl HCID HKD HPREV HNK HNX
              by_cases hk1 : kd = 1
              · have f1 : decide (kd = 1) = true := decide_eq_true hk1
                have f1' : (kd == 1) = true := by simpa using f1
                have HIM0 := Lib.hid (HM13.out (.inl hk1))
                clear hk1
                go_wp2_with (first
                  | (refine wpList_load_mid rfl 30 (.tmp 4) rfl wr.heap.size 0 rfl CC _ RG huc rfl (by rw [HCL.out]; exact info_card) ?_
                     simp only [Act.put, List.setIfInBounds_toArray, List.set_cons_zero, List.set_cons_succ])
                  | fail)
                refine (HC'.out _).mono ?_
                rintro e w4 ⟨rfl, hb5⟩
                have HB4 := Lib.hid (HB3.out.trans (hb5.mono HB3.out.size))
                clear hb5 x0 RG k0 HC'
                cases ck with
                | false =>
                  have HR : Hid (R = false) := Lib.hid (HNM.out HIM0.out)
                  go_wp2_with fail
                  go_ret
                  exact ⟨by rw [HR.out]; rfl, HB4.out⟩
                | true =>
                  have HG := Lib.hid (HGO.out HIM0.out)
                  go_wp2_with fail
                  go_roundw
                  case rel => exact ⟨k + 1, by omega, by go_num, HG, HB4⟩
                  case measure => simp [iOf]; omega
              · by_cases hk3 : kd = 3
                · have f1 : decide (kd = 1) = false := decide_eq_false hk1
                  have f1' : (kd == 1) = false := by simpa using f1
                  have f3 : decide (kd = 3) = true := decide_eq_true hk3
                  have f3' : (kd == 3) = true := by simpa using f3
                  have HIM0 := Lib.hid (HM13.out (.inr hk3))
                  clear hk1 hk3
                  go_wp2_with (first
                    | (refine wpList_load_mid rfl 30 (.tmp 4) rfl wr.heap.size 0 rfl CC _ RG huc rfl (by rw [HCL.out]; exact info_card) ?_
                       simp only [Act.put, List.setIfInBounds_toArray, List.set_cons_zero, List.set_cons_succ])
                    | fail)
                  refine (HC'.out _).mono ?_
                  rintro e w4 ⟨rfl, hb5⟩
                  have HB4 := Lib.hid (HB3.out.trans (hb5.mono HB3.out.size))
                  clear hb5 x0 RG k0 HC'
                  cases ck with
                  | false =>
                    have HR : Hid (R = false) := Lib.hid (HNM.out HIM0.out)
                    go_wp2_with fail
                    go_ret
                    exact ⟨by rw [HR.out]; rfl, HB4.out⟩
                  | true =>
                    have HG := Lib.hid (HGO.out HIM0.out)
                    go_wp2_with fail
                    go_roundw
                    case rel => exact ⟨k + 1, by omega, by go_num, HG, HB4⟩
                    case measure => simp [iOf]; omega
                · have f1 : decide (kd = 1) = false := decide_eq_false hk1
                  have f1' : (kd == 1) = false := by simpa using f1
                  have f3 : decide (kd = 3) = false := decide_eq_false hk3
                  have f3' : (kd == 3) = false := by simpa using f3
                  by_cases hk2 : kd = 2
                  · have f2 : decide (kd = 2) = true := decide_eq_true hk2
                    have f2' : (kd == 2) = true := by simpa using f2
                    have HIM0 := Lib.hid (HM2'.out hk2)
                    clear hk1 hk2 hk3
                    cases eq with
                    | false =>
                      have HR : Hid (R = false) := Lib.hid (HNM.out HIM0.out)
                      go_wp2_with (first
                        | (refine wpList_load_mid rfl 30 (.tmp 4) rfl wr.heap.size 0 rfl CC _ RG huc rfl (by rw [HCL.out]; exact info_card) ?_
                           simp only [Act.put, List.setIfInBounds_toArray, List.set_cons_zero, List.set_cons_succ])
                        | (refine wpList_exec (by rfl) (.agg CD.toArray) (HCB.out _ _ (.tmp 55) rfl rfl _) ?_
                           simp only [Act.put, List.setIfInBounds_toArray, List.set_cons_zero, List.set_cons_succ])
                        | (refine wpList_exec (by rfl) (.bool (!false)) (exec_neq 30 _ (.tmp 53) (.tmp 56) rfl _ _ rfl rfl guard_card false (HE'.out _)) ?_
                           simp only [Act.put, List.setIfInBounds_toArray, List.set_cons_zero, List.set_cons_succ]
                           simp only [Bool.not_true, Bool.not_false])
                        | fail)
                      go_ret
                      exact ⟨by rw [HR.out]; rfl, HB3.out⟩
                    | true =>
                      have HG := Lib.hid (HGO.out HIM0.out)
                      go_wp2_with (first
                        | (refine wpList_load_mid rfl 30 (.tmp 4) rfl wr.heap.size 0 rfl CC _ RG huc rfl (by rw [HCL.out]; exact info_card) ?_
                           simp only [Act.put, List.setIfInBounds_toArray, List.set_cons_zero, List.set_cons_succ])
                        | (refine wpList_exec (by rfl) (.agg CD.toArray) (HCB.out _ _ (.tmp 55) rfl rfl _) ?_
                           simp only [Act.put, List.setIfInBounds_toArray, List.set_cons_zero, List.set_cons_succ])
                        | (refine wpList_exec (by rfl) (.bool (!true)) (exec_neq 30 _ (.tmp 53) (.tmp 56) rfl _ _ rfl rfl guard_card true (HE'.out _)) ?_
                           simp only [Act.put, List.setIfInBounds_toArray, List.set_cons_zero, List.set_cons_succ]
                           simp only [Bool.not_true, Bool.not_false])
                        | fail)
                      go_roundw
                      case rel => exact ⟨k + 1, by omega, by go_num, HG, HB3⟩
                      case measure => simp [iOf]; omega
                  · have f2 : decide (kd = 2) = false := decide_eq_false hk2
                    have f2' : (kd == 2) = false := by simpa using f2
                    have HR : Hid (R = false) := Lib.hid (HNM.out (HME.out hk1 hk2 hk3))
                    clear hk1 hk2 hk3
                    go_wp2_with fail
                    go_ret
                    exact ⟨by rw [HR.out]; rfl, HB3.out⟩
    · obtain rfl : k = n := by omega
      have HR := Lib.hid (HALL.out (by rw [HN.out]; exact HK.out))
      clear HF0 HF1 HALL HCK HEQ HOKK HCE
      go_wp2_with fail
      go_ret
      exact ⟨by rw [HR.out]; rfl, HB.out⟩
end Go.Proofs.Ytepefocpeeihdaa

/- TransApplies: the law's walk. -/
namespace Go.Proofs.Ytepefocpeeihdaa
set_option linter.unusedVariables false
set_option linter.unusedSimpArgs false
open Go Go.RowKit BitM

theorem rapp_in : ∀ {L : List Im} {cs ds : List Cd}, rapp cs L = some ds → (∀ y ∈ cs, okCd y) → (∀ x ∈ L, okCd x.cd) → ds.length ≤ cs.length + L.length ∧ ∀ y ∈ ds, okCd y
  | [], cs, ds, h, h1, _ => by cases h; exact ⟨by simp, h1⟩
  | x :: L, cs, ds, h, h1, h2 => by
    unfold rapp at h
    cases hx : rone cs x with
    | none => rw [hx] at h; cases h
    | some es =>
      rw [hx] at h
      obtain ⟨a, b⟩ := rone_in hx
      obtain ⟨c, d⟩ := rapp_in h (fun y hy => (b y hy).elim (h1 y) (fun e => by rw [e]; exact h2 x List.mem_cons_self)) (fun z hz => h2 z (List.mem_cons_of_mem _ hz))
      exact ⟨by simp only [List.length_cons]; omega, d⟩
theorem crise_step {cs : List Cd} {k : Nat} (hk : k < cs.length) (h : CRise (cs.take k)) (h2 : ∀ m (hm : k = m + 1), (cs[m]'(by omega)).1 < cs[k].1) : CRise (cs.take (k + 1)) := by
  rw [List.take_succ_eq_append_getElem hk]
  refine List.pairwise_append.2 ⟨h, List.pairwise_singleton _ _, fun a ha d hd => ?_⟩
  rw [List.mem_singleton] at hd
  subst hd
  obtain ⟨j, hj, rfl⟩ := List.getElem_of_mem ha
  simp only [List.length_take] at hj
  simp only [List.getElem_take]
  obtain ⟨m, rfl⟩ : ∃ m, k = m + 1 := ⟨k - 1, by omega⟩
  have h3 := h2 m rfl
  by_cases e : j = m
  · subst e; exact h3
  · have := List.pairwise_iff_getElem.1 h j m (by simp; omega) (by simp; omega) (by omega)
    simp only [List.getElem_take] at this
    omega
theorem igoes_kd {L : List Im} (h : igoes L = true) : ∀ x ∈ L, x.kd = 1 ∨ x.kd = 2 ∨ x.kd = 3 := fun x hx => imay_kd (igoes_may h x hx)
set_option maxRecDepth 100000 in
set_option maxHeartbeats 6400000 in
theorem walk_tapplies (A : Option Addr) (n c : Nat) (cs : List Cd) (B : Option Addr) (m d : Nat) (L : List Im) (B' : Option Addr) (m' d' : Nat) (M : List Im) (w : World) (h : SeesR ccl w A n c cs) (h2 : SeesR icl w B m d L) (h3 : SeesR icl w B' m' d' M)
    (hok : ∀ y ∈ cs, okC y) (hok2 : ∀ x ∈ L, okI x) (hok3 : ∀ x ∈ M, okI x) :
    Calls Try.prog 4 #[.slice A n c, .slice B m d, .slice B' m' d'] w fun e w' => e = .returned (.bool true) ∧ Below w.heap.size w w' := by
  have huf := Try.underlying28
  have hoki : ∀ x ∈ L, okCd x.cd := fun x hx => (hok2 x hx).cd.len
  have hokm : ∀ x ∈ M, okCd x.cd := fun x hx => (hok3 x hx).cd.len
  have hokc : ∀ y ∈ cs, okCd y := fun y hy => (hok y hy).len
  have HWL := Lib.hid (fun W (hW : Below w.heap.size w W) => iwide_any B m d L W (h2.later hW) hoki)
  have HWM := Lib.hid (fun W (hW : Below w.heap.size w W) => iwide_any B' m' d' M W (h3.later hW) hokm)
  have HAW := Lib.hid tr_awake
  have HN := Lib.hid h.len
  have HB0 := Lib.hid (Below.refl w.heap.size w)
  cases hwl : iwide L with
  | true =>
    rw [hwl] at HWL
    clear hwl h h2 h3 hok hok2 hok3 hoki hokm hokc HWM
    go_enter Try.func4, Try.ntmps4
    go_wp2_with fail
    refine (HWL.out _ HB0.out).mono ?_
    rintro e w1 ⟨rfl, hb⟩
    have HB1 := Lib.hid (HB0.out.trans (hb.mono HB0.out.size))
    clear hb
    go_wp2_with fail
    refine (HAW.out _).mono ?_
    rintro e w9 ⟨rfl, hb⟩
    have HB9 := Lib.hid (HB1.out.trans (hb.mono HB1.out.size))
    clear hb
    go_wp2_with fail
    go_ret
    exact ⟨rfl, HB9.out⟩
  | false =>
    rw [hwl] at HWL
    cases hwm : iwide M with
    | true =>
      rw [hwm] at HWM
      clear hwl hwm h h2 h3 hok hok2 hok3 hoki hokm hokc
      go_enter Try.func4, Try.ntmps4
      go_wp2_with fail
      refine (HWL.out _ HB0.out).mono ?_
      rintro e w1 ⟨rfl, hb⟩
      have HB1 := Lib.hid (HB0.out.trans (hb.mono HB0.out.size))
      clear hb
      go_wp2_with fail
      refine (HWM.out _ HB1.out).mono ?_
      rintro e w2 ⟨rfl, hb⟩
      have HB2 := Lib.hid (HB1.out.trans (hb.mono HB1.out.size))
      clear hb
      go_wp2_with fail
      refine (HAW.out _).mono ?_
      rintro e w9 ⟨rfl, hb⟩
      have HB9 := Lib.hid (HB2.out.trans (hb.mono HB2.out.size))
      clear hb
      go_wp2_with fail
      go_ret
      exact ⟨rfl, HB9.out⟩
    | false =>
      rw [hwm] at HWM
      by_cases h60 : 60 < n
      · have d60 : decide (60 < (n : Int)) = true := decide_eq_true (by omega)
        have d60' : decide (60 < n) = true := decide_eq_true h60
        clear hwl hwm h h2 h3 hok hok2 hok3 hoki hokm hokc h60
        go_enter Try.func4, Try.ntmps4
        go_wp2_with fail
        refine (HWL.out _ HB0.out).mono ?_
        rintro e w1 ⟨rfl, hb⟩
        have HB1 := Lib.hid (HB0.out.trans (hb.mono HB0.out.size))
        clear hb
        go_wp2_with fail
        refine (HWM.out _ HB1.out).mono ?_
        rintro e w2 ⟨rfl, hb⟩
        have HB2 := Lib.hid (HB1.out.trans (hb.mono HB1.out.size))
        clear hb
        go_wp2_with fail
        refine (HAW.out _).mono ?_
        rintro e w9 ⟨rfl, hb⟩
        have HB9 := Lib.hid (HB2.out.trans (hb.mono HB2.out.size))
        clear hb
        go_wp2_with fail
        go_ret
        exact ⟨rfl, HB9.out⟩
      · have d60 : decide (60 < (n : Int)) = false := decide_eq_false (by omega)
        have d60' : decide (60 < n) = false := decide_eq_false h60
        have hn60 : n ≤ 60 := by omega
        have hm100 : m ≤ 100 := by have := iwide_len hwl; have := h2.len; omega
        have hm2 : m' ≤ 100 := by have := iwide_len hwm; have := h3.len; omega
        have HP := Lib.hid (fun W (hW : Below w.heap.size w W) => igoes_any B m d L W (h2.later hW) hoki (by omega))
        have HD := Lib.hid (fun W (hW : Below w.heap.size w W) => rigoes_any B m d L W (h2.later hW) hoki (by omega))
        have HS1 := Lib.hid (fun W (hW : Below w.heap.size w W) => samei_any B B' m d m' d' L M W (h2.later hW) (h3.later hW) (by omega) (by omega) hoki hokm)
        have HS2 := Lib.hid (fun W (hW : Below w.heap.size w W) => rsamei_any B B' m d m' d' L M W h2.len h3.len (by omega) (by omega) hoki hokm (h2.later hW).see (h3.later hW).see)
        have HA1 := Lib.hid (fun W (hW : Below w.heap.size w W) (hr : CRise cs) => apply_any A n c cs B m d L W (h.later hW) (fun y hy => ⟨(hok y hy).len, (hok y hy).id⟩) hr (h2.later hW) (fun x hx => ⟨(hok2 x hx).cd.len, (hok2 x hx).cd.id⟩) (by omega))
        have HA2 := Lib.hid (fun W (hW : Below w.heap.size w W) => rapply_any A n c cs B m d L W (h.later hW) hokc (h2.later hW) hoki (by omega))
        have HEQ := Lib.hid (fun (hr : CRise cs) (hg : igoes L = true) => apOut_rapp hr (igoes_kd hg))
        have HIN := Lib.hid (fun ds (e : rapp cs L = some ds) => rapp_in e hokc hoki)
        have HM := Lib.hid h2.len
        have HLG := Lib.hid (fun k (hk : k < cs.length) wx => large_any cs[k].2.2.2 wx (hokc _ (List.getElem_mem hk)))
        have HFL := Lib.hid (fun k (hk : k < cs.length) => show (fcells cs[k].2.2.2).length = 24 by rw [fcells_len, hokc _ (List.getElem_mem hk)])
        have HST := Lib.hid (fun k (hk : k < cs.length) => crise_step (cs := cs) hk)
        have HCE : Hid (∀ k (hk : k < cs.length), ∃ b o, A = some ⟨b, o, none⟩ ∧ ∀ W, Below w.heap.size w W → ∀ k (hk : k < cs.length), W.cell? ⟨b, o + k * 27, none⟩ = some (.int .i64 cs[k].1) ∧ W.rangeAt b (o + k * 27 + 3) (fcells cs[k].2.2.2)) := Lib.hid (fun k hk => by
          obtain ⟨b, o, e, _, hc⟩ := card_cells h hokc (by omega)
          exact ⟨b, o, e, fun W hW k hk => ⟨(hc W hW k hk).1, (hc W hW k hk).2.2.2⟩⟩)
        clear hwl hwm h h2 h3 hok hok2 hok3 hoki hokm hokc h60
        go_enter Try.func4, Try.ntmps4
        go_wp2_with fail
        refine (HWL.out _ HB0.out).mono ?_
        rintro e w1 ⟨rfl, hb⟩
        have HB1 := Lib.hid (HB0.out.trans (hb.mono HB0.out.size))
        clear hb
        go_wp2_with fail
        refine (HWM.out _ HB1.out).mono ?_
        rintro e w2 ⟨rfl, hb⟩
        have HB2 := Lib.hid (HB1.out.trans (hb.mono HB1.out.size))
        clear hb
        clear HWL HWM HB1 HB0
        go_wp2_with fail
        go_loopw [7] (fun i wr => ∃ k : Nat, k ≤ n ∧ i = .int .i64 (k : Int) ∧ Hid (CRise (cs.take k)) ∧ Hid (Below w.heap.size w wr)) (fun i _ => n - (iOf i).toNat)
        case atStart => exact ⟨0, by omega, rfl, Lib.hid List.Pairwise.nil, HB2⟩
        case round =>
          clear HB2
          obtain ⟨k, hk, rfl, HR, HB⟩ := hrel
          by_cases hlt : k < n
          · have d0 : decide ((k : Int) < (n : Int)) = true := decide_eq_true (by omega)
            have hkl : k < cs.length := by rw [HN.out]; exact hlt
            obtain ⟨b, o, rfl, hcc⟩ := HCE.out k hkl
            have HCC := Lib.hid hcc
            have HBW : Hid (∀ W, Le wr W → Below w.heap.size w W) := Lib.hid (fun W hl => HB.out.trans (hl.mono HB.out.size))
            have HNX := Lib.hid (HST.out k hkl HR.out)
            have HL := Lib.hid (HLG.out k hkl)
            have HFK := Lib.hid (HFL.out k hkl)
            have HRG : Hid (∀ W, Below w.heap.size w W → W.rangeAt b (o + k * 27 + 3) (fcells cs[k].2.2.2)) := Lib.hid (fun W hW => (hcc W hW k hkl).2)
            obtain ⟨FC, hFC⟩ : ∃ FC, FC = fcells cs[k].2.2.2 := ⟨_, rfl⟩
            rw [← hFC] at HL HFK HRG
            have HPREV : Hid (∀ m (hm : k = m + 1), ∀ W, Below w.heap.size w W → W.cell? ⟨b, o + m * 27, none⟩ = some (.int .i64 (cs[m]'(by omega)).1)) := Lib.hid (fun m hm W hW => (hcc W hW m (by omega)).1)
            have HCX : Hid (∀ W, Le wr W → W.cell? ⟨b, o + k * 27, none⟩ = some (.int .i64 cs[k].1)) := Lib.hid (fun W hl => (hcc W (HBW.out W hl) k hkl).1)
            have cx : ∀ kk : LW wr, kk.val.cell? ⟨b, o + k * 27, none⟩ = some (.int .i64 cs[k].1) := fun kk => HCX.out _ kk.le
            generalize tooLong cs[k].2.2.2 = tl at HL
            generalize cs[k].1 = x at HNX HCX cx
            clear hcc hFC HST HLG HFL HCE HP HD HS1 HS2 HA1 HA2 HEQ HIN HR HCX HCC
            cases tl with
            | true =>
              go_wp2_with fail
              refine wp_region_steady [] 96 (by kernel_rfl) (by kernel_rfl) (by kernel_rfl) (by rfl) ?_
              iterate 4 (refine wpG_quiet (by rfl) (by rfl) (by rfl) (fun K hK => ?_); go_big_quiet_op; refine hK _ ?_; clear hK K)
              refine wpG_run (by rfl) (by rfl) (.agg FC.toArray) (fun wx hl => exec_load 28 (.tmp 33) rfl b (o + k * 27 + 3) rfl FC _ (HRG.out wx (HBW.out wx hl.1)) huf rfl (by rw [HFK.out]; exact info_flds)) ?_
              simp only [Act.put, List.setIfInBounds_toArray, List.set_cons_zero, List.set_cons_succ]
              refine wpG_call (by rfl) (by rfl) 18 #[.agg FC.toArray] (.bool true) (by intro _; simp [go_sem]) (by kernel_rfl) (fun wx hl => HL.out wx) ?_
              simp only [Act.put, List.setIfInBounds_toArray, List.set_cons_zero, List.set_cons_succ]
              iterate 1 (refine wpG_quiet (by rfl) (by rfl) (by rfl) (fun K hK => ?_); go_big_quiet_op; refine hK _ ?_; clear hK K)
              iterate 16 (refine wpG_skip (by rfl) ?_; simp only [Act.put, List.setIfInBounds_toArray, List.set_cons_zero, List.set_cons_succ])
              iterate 1 (refine wpG_quiet (by rfl) (by rfl) (by rfl) (fun K hK => ?_); go_big_quiet_op; refine hK _ ?_; clear hK K)
              refine wpG_nil fun w3 hl _ => ?_
              have HB3 := Lib.hid (HBW.out w3 hl)
              clear HBW hl
              go_wp2_with fail
              refine (HAW.out _).mono ?_
              rintro e w9 ⟨rfl, hb⟩
              have HB9 := Lib.hid (HB3.out.trans (hb.mono HB3.out.size))
              clear hb
              go_wp2_with fail
              go_ret
              exact ⟨rfl, HB9.out⟩
            | false =>
              by_cases h0 : k = 0
              · have d1 : decide ((0 : Int) < (k : Int)) = false := decide_eq_false (by omega)
                have d1' : decide (0 < k) = false := decide_eq_false (by omega)
                have HG := Lib.hid (HNX.out (fun m hm => absurd hm (by omega)))
                clear h0
                go_wp2_with fail
                refine wp_region_steady [] 96 (by kernel_rfl) (by kernel_rfl) (by kernel_rfl) (by rfl) ?_
                iterate 4 (refine wpG_quiet (by rfl) (by rfl) (by rfl) (fun K hK => ?_); go_big_quiet_op; refine hK _ ?_; clear hK K)
                refine wpG_run (by rfl) (by rfl) (.agg FC.toArray) (fun wx hl => exec_load 28 (.tmp 33) rfl b (o + k * 27 + 3) rfl FC _ (HRG.out wx (HBW.out wx hl.1)) huf rfl (by rw [HFK.out]; exact info_flds)) ?_
                simp only [Act.put, List.setIfInBounds_toArray, List.set_cons_zero, List.set_cons_succ]
                refine wpG_call (by rfl) (by rfl) 18 #[.agg FC.toArray] (.bool false) (by intro _; simp [go_sem]) (by kernel_rfl) (fun wx hl => HL.out wx) ?_
                simp only [Act.put, List.setIfInBounds_toArray, List.set_cons_zero, List.set_cons_succ]
                iterate 4 (refine wpG_quiet (by rfl) (by rfl) (by rfl) (fun K hK => ?_); go_big_quiet_op; refine hK _ ?_; clear hK K)
                iterate 12 (refine wpG_skip (by rfl) ?_; simp only [Act.put, List.setIfInBounds_toArray, List.set_cons_zero, List.set_cons_succ])
                iterate 2 (refine wpG_quiet (by rfl) (by rfl) (by rfl) (fun K hK => ?_); go_big_quiet_op; refine hK _ ?_; clear hK K)
                refine wpG_nil fun w3 hl _ => ?_
                have HB3 := Lib.hid (HBW.out w3 hl)
                clear HBW hl
                go_wp2_with fail
                go_roundw
                case rel => exact ⟨k + 1, by omega, by go_num, HG, HB3⟩
                case measure => simp [iOf]; omega
              · obtain ⟨p, hp⟩ : ∃ p, k = p + 1 := ⟨k - 1, by omega⟩
                have d1 : decide ((0 : Int) < (k : Int)) = true := decide_eq_true (by omega)
                have d1' : decide (0 < k) = true := decide_eq_true (by omega)
                obtain ⟨y, hy⟩ : ∃ y, y = (cs[p]'(by omega)).1 := ⟨_, rfl⟩
                have cp : ∀ kk : LW wr, kk.val.cell? ⟨b, o + p * 27, none⟩ = some (.int .i64 y) := fun kk => by rw [hy]; exact HPREV.out p hp _ (HBW.out _ kk.le)
                have HG1 : Hid (y < x → CRise (cs.take (k + 1))) := Lib.hid (fun e => HNX.out (fun m hm => by
                  obtain rfl : m = p := by omega
                  rw [← hy]; exact e))
                have km : (k : Int) - 1 = (p : Int) := by omega
                have hpn : p < n := by omega
                clear hp hy h0
                by_cases h4 : x ≤ y
                · have d4 : decide (x ≤ y) = true := decide_eq_true h4
                  clear h4
                  go_wp2_with fail
                  refine wp_region_steady [] 96 (by kernel_rfl) (by kernel_rfl) (by kernel_rfl) (by rfl) ?_
                  iterate 4 (refine wpG_quiet (by rfl) (by rfl) (by rfl) (fun K hK => ?_); go_big_quiet_op; refine hK _ ?_; clear hK K)
                  refine wpG_run (by rfl) (by rfl) (.agg FC.toArray) (fun wx hl => exec_load 28 (.tmp 33) rfl b (o + k * 27 + 3) rfl FC _ (HRG.out wx (HBW.out wx hl.1)) huf rfl (by rw [HFK.out]; exact info_flds)) ?_
                  simp only [Act.put, List.setIfInBounds_toArray, List.set_cons_zero, List.set_cons_succ]
                  refine wpG_call (by rfl) (by rfl) 18 #[.agg FC.toArray] (.bool false) (by intro _; simp [go_sem]) (by kernel_rfl) (fun wx hl => HL.out wx) ?_
                  simp only [Act.put, List.setIfInBounds_toArray, List.set_cons_zero, List.set_cons_succ]
                  iterate 18 (refine wpG_quiet (by rfl) (by rfl) (by rfl) (fun K hK => ?_); go_big_quiet_op; refine hK _ ?_; clear hK K)
                  refine wpG_nil fun w3 hl _ => ?_
                  have HB3 := Lib.hid (HBW.out w3 hl)
                  clear HBW hl
                  go_wp2_with fail
                  refine (HAW.out _).mono ?_
                  rintro e w9 ⟨rfl, hb⟩
                  have HB9 := Lib.hid (HB3.out.trans (hb.mono HB3.out.size))
                  clear hb
                  go_wp2_with fail
                  go_ret
                  exact ⟨rfl, HB9.out⟩
                · have d4 : decide (x ≤ y) = false := decide_eq_false h4
                  have HG := Lib.hid (HG1.out (by omega))
                  clear h4
                  go_wp2_with fail
                  refine wp_region_steady [] 96 (by kernel_rfl) (by kernel_rfl) (by kernel_rfl) (by rfl) ?_
                  iterate 4 (refine wpG_quiet (by rfl) (by rfl) (by rfl) (fun K hK => ?_); go_big_quiet_op; refine hK _ ?_; clear hK K)
                  refine wpG_run (by rfl) (by rfl) (.agg FC.toArray) (fun wx hl => exec_load 28 (.tmp 33) rfl b (o + k * 27 + 3) rfl FC _ (HRG.out wx (HBW.out wx hl.1)) huf rfl (by rw [HFK.out]; exact info_flds)) ?_
                  simp only [Act.put, List.setIfInBounds_toArray, List.set_cons_zero, List.set_cons_succ]
                  refine wpG_call (by rfl) (by rfl) 18 #[.agg FC.toArray] (.bool false) (by intro _; simp [go_sem]) (by kernel_rfl) (fun wx hl => HL.out wx) ?_
                  simp only [Act.put, List.setIfInBounds_toArray, List.set_cons_zero, List.set_cons_succ]
                  iterate 18 (refine wpG_quiet (by rfl) (by rfl) (by rfl) (fun K hK => ?_); go_big_quiet_op; refine hK _ ?_; clear hK K)
                  refine wpG_nil fun w3 hl _ => ?_
                  have HB3 := Lib.hid (HBW.out w3 hl)
                  clear HBW hl
                  go_wp2_with fail
                  go_roundw
                  case rel => exact ⟨k + 1, by omega, by go_num, HG, HB3⟩
                  case measure => simp [iOf]; omega
          · obtain rfl : k = n := by omega
            have HRI : Hid (CRise cs) := Lib.hid (by have := HR.out; rwa [List.take_of_length_le (by rw [HN.out]; exact Nat.le_refl _)] at this)
            have HA1' := Lib.hid (fun W hW => HA1.out W hW HRI.out)
            have HEQ' := Lib.hid (HEQ.out HRI.out)
            clear HST HLG HFL HCE HA1 HEQ HR HRI
            cases hgo : igoes L with
            | false =>
              rw [hgo] at HP HD
              clear hgo HEQ' HA1' HA2 HIN
              generalize decide (L = M) = se at HS1 HS2
              have g9 : (se != se) = false := by cases se <;> rfl
              go_wp2_with fail
              refine (HP.out _ HB.out).mono ?_
              rintro e w3 ⟨rfl, hb⟩
              have HB3 := Lib.hid (HB.out.trans (hb.mono HB.out.size))
              clear hb
              go_wp2_with fail
              refine (HD.out _ HB3.out).mono ?_
              rintro e w4 ⟨rfl, hb⟩
              have HB4 := Lib.hid (HB3.out.trans (hb.mono HB3.out.size))
              clear hb
              go_wp2_with fail
              refine (HS1.out _ HB4.out).mono ?_
              rintro e w5 ⟨rfl, hb⟩
              have HB5 := Lib.hid (HB4.out.trans (hb.mono HB4.out.size))
              clear hb
              go_wp2_with fail
              refine (HS2.out _ HB5.out).mono ?_
              rintro e w6 ⟨rfl, hb⟩
              have HB6 := Lib.hid (HB5.out.trans (hb.mono HB5.out.size))
              clear hb
              go_wp2_with fail
              refine (HD.out _ HB6.out).mono ?_
              rintro e w7 ⟨rfl, hb⟩
              have HB7 := Lib.hid (HB6.out.trans (hb.mono HB6.out.size))
              clear hb
              go_wp2_with fail
              refine (HAW.out _).mono ?_
              rintro e w9 ⟨rfl, hb⟩
              have HB9 := Lib.hid (HB7.out.trans (hb.mono HB7.out.size))
              clear hb
              go_wp2_with fail
              go_ret
              exact ⟨rfl, HB9.out⟩
            | true =>
              rw [hgo] at HP HD
              have HE := Lib.hid (HEQ'.out hgo)
              clear hgo HEQ'
              generalize decide (L = M) = se at HS1 HS2
              have g9 : (se != se) = false := by cases se <;> rfl
              go_wp2_with fail
              refine (HP.out _ HB.out).mono ?_
              rintro e w3 ⟨rfl, hb⟩
              have HB3 := Lib.hid (HB.out.trans (hb.mono HB.out.size))
              clear hb
              go_wp2_with fail
              refine (HD.out _ HB3.out).mono ?_
              rintro e w4 ⟨rfl, hb⟩
              have HB4 := Lib.hid (HB3.out.trans (hb.mono HB3.out.size))
              clear hb
              go_wp2_with fail
              refine (HS1.out _ HB4.out).mono ?_
              rintro e w5 ⟨rfl, hb⟩
              have HB5 := Lib.hid (HB4.out.trans (hb.mono HB4.out.size))
              clear hb
              go_wp2_with fail
              refine (HS2.out _ HB5.out).mono ?_
              rintro e w6 ⟨rfl, hb⟩
              have HB6 := Lib.hid (HB5.out.trans (hb.mono HB5.out.size))
              clear hb
              go_wp2_with fail
              refine (HD.out _ HB6.out).mono ?_
              rintro e w7 ⟨rfl, hb⟩
              have HB7 := Lib.hid (HB6.out.trans (hb.mono HB6.out.size))
              clear hb
              clear HP HD HS1 HS2 HB HB3 HB4 HB5 HB6
              go_wp2_with fail
              rw [HE.out] at HA1'
              cases hr : rapp cs L with
              | none =>
                rw [hr] at HA1' HA2
                clear hr HIN HE
                refine (HA1'.out _ HB7.out).mono ?_
                rintro e w8 ⟨rfl, hb⟩
                have HB8 := Lib.hid (HB7.out.trans (hb.mono HB7.out.size))
                clear hb HA1'
                go_wp2_with fail
                refine (HA2.out _ HB8.out).mono ?_
                rintro e w10 ⟨rfl, hb⟩
                have HB10 := Lib.hid (HB8.out.trans (hb.mono HB8.out.size))
                clear hb HA2
                go_wp2_with fail
                refine (rsamec_any none none 0 0 0 0 [] [] _ rfl rfl (by omega) (by omega) (by simp) (by simp) (fun hx => by simp [rws] at hx) (fun hx => by simp [rws] at hx)).mono ?_
                rintro e w11 ⟨rfl, hb⟩
                have HB11 := Lib.hid (HB10.out.trans (hb.mono HB10.out.size))
                clear hb
                rw [decide_eq_true (rfl : ([] : List Cd) = [])]
                go_wp2_with fail
                refine (HAW.out _).mono ?_
                rintro e w9 ⟨rfl, hb⟩
                have HB9 := Lib.hid (HB11.out.trans (hb.mono HB11.out.size))
                clear hb
                go_wp2_with fail
                go_ret
                exact ⟨rfl, HB9.out⟩
              | some ds =>
                rw [hr] at HA1' HA2
                have HI := Lib.hid (HIN.out ds hr)
                clear hr HIN HE
                refine (HA1'.out _ HB7.out).mono ?_
                rintro e w8 ⟨Ax, mx, cx, rfl, hsx, hb⟩
                have HB8 := Lib.hid (HB7.out.trans (hb.mono HB7.out.size))
                have HSX := Lib.hid hsx
                clear hb HA1' hsx
                go_wp2_with fail
                refine (HA2.out _ HB8.out).mono ?_
                rintro e w10 ⟨Ay, my, cy, rfl, hsy, hb⟩
                have HB10 := Lib.hid (HB8.out.trans (hb.mono HB8.out.size))
                have HSX2 := Lib.hid (HSX.out.later hb)
                have HSY := Lib.hid hsy
                clear hb HA2 hsy HSX
                go_wp2_with fail
                refine (rsamec_any Ax Ay mx cx my cy ds ds _ HSX2.out.len HSY.out.len (by have := HSX2.out.len; have := HI.out.1; have := HN.out; have := HM.out; omega) (by have := HSY.out.len; have := HI.out.1; have := HN.out; have := HM.out; omega) HI.out.2 HI.out.2 HSX2.out.see HSY.out.see).mono ?_
                rintro e w11 ⟨rfl, hb⟩
                have HB11 := Lib.hid (HB10.out.trans (hb.mono HB10.out.size))
                clear hb
                rw [decide_eq_true (rfl : ds = ds)]
                go_wp2_with fail
                refine (HAW.out _).mono ?_
                rintro e w9 ⟨rfl, hb⟩
                have HB9 := Lib.hid (HB11.out.trans (hb.mono HB11.out.size))
                clear hb
                go_wp2_with fail
                go_ret
                exact ⟨rfl, HB9.out⟩
end Go.Proofs.Ytepefocpeeihdaa
