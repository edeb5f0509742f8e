/- Pieces: the document's Get: what it returns. -/
import Derived.Test.YtgoebblcggdlgaaPieE
namespace Go.Proofs.Ytgoebblcggdlgaa
set_option linter.unusedVariables false
set_option linter.unusedSimpArgs false
open Go Go.RowKit OctM SumM

theorem zero_rpie (w : World) : (Instr.alloc 23 true (.tuple #[])).run Try.prog w = .ok (.pointer (some ⟨w.heap.size, 0, none⟩)) (w.alloc (.cells (pcel zpc).toArray 23)) := by kernel_rfl
theorem newR_gives {a : Act} {op : Oper} (ho : op.op = .alloc 23) (B : Nat) (w : World) (hB : B ≤ w.heap.size) : gives Try.prog op a (relB B (pcel zpc)).rel w := by
  unfold gives execOp
  simp only [ho, Sem.run_bind, zero_rpie, Result.andThen_ok, Sem.run_pure]
  exact ⟨(Below.refl _ _).alloc (Nat.le_refl _) _, _, rfl, hB, Blk.new w _ _⟩
theorem exec_cuts {a : Act} {o : Oper} (x y : Tmp) (ho : o.op = .slice 9 (.tmp x) (some (.const (.int .i64 10))) (some (.tmp y)) none) (l : List UInt8) (m : Nat) (h : 10 + m ≤ l.length) (sb : ByteArray) (hs : (str l).extract 10 (10 + m) = sb) (hx : a.eval (.tmp x) = .string (str l)) (hy : a.eval (.tmp y) = .int .i64 (10 + (m : Int))) (w : World) : (execOp a.eval o).run Try.prog w = .ok (.value (.string sb)) w := by
  rw [← hs]
  exact exec_cut x y ho l m h hx hy w
set_option maxRecDepth 100000 in
set_option maxHeartbeats 3200000 in
theorem rget_any (l : List UInt8) (hl : l.length ≤ 4096) (w : World) : Calls Try.prog 8 #[.string (str l)] w fun e w' => e = .returned (.tuple #[.agg (pcel (getOut l).1).toArray, .bool (getOut l).2]) ∧ Below w.heap.size w w' := by
  have hu := Try.underlying23
  have B0 := Blk.new w (pcel zpc) 23
  have hb0 := (Below.refl w.heap.size w).alloc (Nat.le_refl _) (.cells (pcel zpc).toArray 23)
  have hz := str_size l
  by_cases h64 : l.length = 64
  · have hz9 : 9 < (str l).size := by rw [hz, h64]; decide
    have h9 : 9 < l.length := by rw [h64]; decide
    have hk0 : knd l = l[9].toNat := by unfold knd; rw [List.getD_eq_getElem?_getD, List.getElem?_eq_getElem h9]; rfl
    obtain ⟨c, hc⟩ : ∃ c, c = l[9] := ⟨_, rfl⟩
    have hget : (str l)[9]'hz9 = c := (str_get l 9 hz9).trans hc.symm
    rw [← hc] at hk0
    have hcl := c.toNat_lt
    have a1 : (c.toNat : Int) % 64 = ((c.toNat % 64 : Nat) : Int) := by omega
    have a2 : ((c.toNat : Int) / 64 % 2 == 1) = decide (c.toNat / 64 % 2 = 1) := by rw [Bool.eq_iff_iff]; simp; omega
    have a3 : ((c.toNat : Int) / 128 == 1) = decide (c.toNat / 128 = 1) := by rw [Bool.eq_iff_iff]; simp; omega
    rw [h64] at hz
    have HG : Hid (getOut l = if c.toNat % 64 ≤ 52 ∧ pbs (cand l) = l then (cand l, true) else (zpc, false)) := Lib.hid (by unfold getOut; rw [hk0]; simp [h64])
    have HN1 : Hid (∀ wx, Calls Try.prog 25 #[.string ((str l).extract 0 4)] wx fun e w' => e = .returned (.int .i64 (nu (l.take 4) : Int)) ∧ wx = w') := Lib.hid fun wx => by
      have e := str_mid l 0 4
      rw [Nat.zero_add, List.drop_zero] at e
      rw [e]
      exact rnumber_any _ (by rw [List.length_take]; omega) wx
    have HN2 : Hid (∀ wx, Calls Try.prog 25 #[.string ((str l).extract 4 9)] wx fun e w' => e = .returned (.int .i64 (nu ((l.drop 4).take 5) : Int)) ∧ wx = w') := Lib.hid fun wx => by
      have e := str_mid l 4 5
      rw [show (str l).extract 4 9 = str ((l.drop 4).take 5) from e]
      exact rnumber_any _ (by rw [List.length_take]; omega) wx
    have HX : Hid (cand l = ((nu (l.take 4) : Int), (nu ((l.drop 4).take 5) : Int), decide (c.toNat / 64 % 2 = 1), decide (c.toNat / 128 = 1), (l.drop 10).take (c.toNat % 64))) := Lib.hid (by unfold cand; rw [hk0])
    have HS3 : Hid ((str l).extract 10 (10 + c.toNat % 64) = str ((l.drop 10).take (c.toNat % 64))) := Lib.hid (str_mid l 10 _)
    obtain ⟨n1, hn1⟩ : ∃ z, z = nu (l.take 4) := ⟨_, rfl⟩
    rw [← hn1] at HN1 HX
    obtain ⟨n2, hn2⟩ : ∃ z, z = nu ((l.drop 4).take 5) := ⟨_, rfl⟩
    rw [← hn2] at HN2 HX
    obtain ⟨f, hf⟩ : ∃ z, z = decide (c.toNat / 64 % 2 = 1) := ⟨_, rfl⟩
    rw [← hf] at a2 HX
    obtain ⟨g, hg⟩ : ∃ z, z = decide (c.toNat / 128 = 1) := ⟨_, rfl⟩
    rw [← hg] at a3 HX
    obtain ⟨b, hb⟩ : ∃ z, z = (l.drop 10).take (c.toNat % 64) := ⟨_, rfl⟩
    rw [← hb] at HX HS3
    have HBL : Hid (b.length ≤ 4096) := Lib.hid (by rw [hb, List.length_take]; omega)
    clear hn1 hn2 hf hg hb hk0 hc h9
    obtain ⟨m, hm⟩ : ∃ m, m = c.toNat % 64 := ⟨_, rfl⟩
    rw [← hm] at a1 HS3 HG
    clear hm
    have B1 : Blk (w.alloc (.cells #[.int .i64 0, .int .i64 0, .bool false, .bool false, .string { data := #[] }] 23)) w.heap.size (pcel zpc) := B0
    have hb1 : Below w.heap.size w (w.alloc (.cells #[.int .i64 0, .int .i64 0, .bool false, .bool false, .string { data := #[] }] 23)) := hb0
    have HPT := Lib.hid (fun wx => rput_any (cand l) wx (by rw [HX.out]; exact HBL.out))
    have HON := Lib.hid (all_oneCell_toArray (pcel_one (cand l)))
    obtain ⟨pc, hpc⟩ : ∃ pc, pc = pcel (cand l) := ⟨_, rfl⟩
    have HPC : Hid (pc = [.int .i64 (n1 : Int), .int .i64 (n2 : Int), .bool f, .bool g, .string (str b)]) := Lib.hid (by rw [hpc, HX.out]; rfl)
    rw [← hpc] at HPT HON
    have HPQ := Lib.hid hpc
    have HLC : Hid (pc.length = 5) := Lib.hid (by rw [HPC.out]; rfl)
    obtain ⟨sb, hsb⟩ : ∃ sb, sb = str b := ⟨_, rfl⟩
    rw [← hsb] at HPC HS3
    obtain ⟨pz, hpz⟩ : ∃ pz : List Value, pz = [.int .i64 (n1 : Int), .int .i64 (n2 : Int), .bool f, .bool g, .string { data := #[] }] := ⟨_, rfl⟩
    have HPZ := Lib.hid hpz
    have HLZ : Hid (pz.length = 5) := Lib.hid (by rw [hpz]; rfl)
    have HZC : Hid (pz.set 4 (.string sb) = pc) := Lib.hid (by rw [hpz, HPC.out]; rfl)
    have HOZ : Hid (pz.toArray.all (·.oneCell') = true) := Lib.hid (by rw [hpz]; exact all_oneCell_toArray (pcel_one ((n1 : Int), (n2 : Int), f, g, [])))
    have ONZ := all_oneCell_toArray (pcel_one zpc)
    clear B0 hb0 hsb hpc hpz
    go_enter Try.func8, Try.ntmps8
    go_wp2_with fail
    generalize w.alloc (.cells #[Value.int .i64 0, .int .i64 0, .bool false, .bool false, .string { data := #[] }] 23) = w1 at B1 hb1 ⊢
    refine wp_region_tail [(5, relB w1.heap.size (pcel zpc))] 43 15 (by kernel_rfl) (by kernel_rfl) (by kernel_rfl) (by rfl) ?_
    simp only [List.take_succ_cons, List.take_zero, List.drop_succ_cons, List.drop_zero]
    iterate 2 (refine wpG_quiet (by rfl) (by rfl) (by rfl) (fun K hK => ?_); go_big_quiet_op; refine hK _ ?_; clear hK K)
    refine wpG_call (by rfl) (by rfl) 25 #[.string ((str l).extract 0 4)] (.int .i64 (n1 : Int)) (by intro _; simp [go_sem]) (by kernel_rfl) (fun wx hl => (HN1.out wx).mono (fun e w' h => ⟨h.1, h.2 ▸ Below.refl _ _⟩)) ?_
    simp only [Act.put, List.setIfInBounds_toArray, List.set_cons_zero, List.set_cons_succ]
    iterate 2 (refine wpG_quiet (by rfl) (by rfl) (by rfl) (fun K hK => ?_); go_big_quiet_op; refine hK _ ?_; clear hK K)
    refine wpG_call (by rfl) (by rfl) 25 #[.string ((str l).extract 4 9)] (.int .i64 (n2 : Int)) (by intro _; simp [go_sem]) (by kernel_rfl) (fun wx hl => (HN2.out wx).mono (fun e w' h => ⟨h.1, h.2 ▸ Below.refl _ _⟩)) ?_
    simp only [Act.put, List.setIfInBounds_toArray, List.set_cons_zero, List.set_cons_succ]
    iterate 8 (refine wpG_quiet (by rfl) (by rfl) (by rfl) (fun K hK => ?_); go_big_quiet_op; refine hK _ ?_; clear hK K)
    rw [show #[Value.int .i64 (n1 : Int), .int .i64 (n2 : Int), .bool f, .bool g, .string { data := #[] }] = pz.toArray from by rw [HPZ.out]]
    refine wpG_open (relB w1.heap.size (pcel zpc)) (by rfl) (by rfl) (fun wx hl => newR_gives rfl w1.heap.size wx hl.1.size) ?_
    rintro _ ⟨_, _, _, ⟨g5, rfl, _⟩⟩
    simp only [Act.put, List.setIfInBounds_toArray, List.set_cons_zero, List.set_cons_succ]
    refine wpG_nil fun w5 hl hS => ?_
    obtain ⟨_, ⟨g6, eg, hg6, hB5⟩⟩ := hS
    cases eg
    have hb5 := hb1.trans (hl.mono hb1.size)
    have B5 := B1.later hl
    have hB6 := hB5.wholeT (ds := pz) (by rw [HLZ.out]; rfl)
    have hlt1 := B1.lt
    have hb6 := below_sets (Nat.le_trans hb1.size hg6) pz 0 hb5
    have B6 := Blk.setsOther (b := g5) (by omega) pz 0 B5
    have hs5 : pz.toArray.size = 5 := (List.size_toArray).trans HLZ.out
    have TH5 : w5.there g5 0 pz.toArray.size := by rw [hs5]; exact hB5.there 0 5 (Nat.le_refl _)
    have IN5 : (Try.prog.info? 23).map (·.size) = some pz.toArray.size := by rw [hs5]; exact info_rpie
    have HB6 := Lib.hid hB6
    have HBB := Lib.hid B6
    have HBL6 := Lib.hid hb6
    have hne5 : w.heap.size ≤ g5 := Nat.le_trans hb1.size hg6
    have hne6 : g5 ≠ w.heap.size := by omega
    have HNE := Lib.hid (And.intro hne5 hne6)
    clear hB6 B6 hb6 hB5 B5 hb5 hl hg6 hs5 B1 hb1 hne5 hne6 hlt1
    by_cases h52 : m ≤ 52
    · have d52 : decide ((52 : Int) < (m : Int)) = false := decide_eq_false (by omega)
      have h74 : (10 : Int) + (m : Int) ≤ 64 := by omega
      have e2 : (str l).extract 10 (10 + (m : Int)).toNat = sb := by rw [show (10 + (m : Int)).toNat = 10 + m by omega]; exact HS3.out
      go_wp2_with (first
        | (refine wpList_store_mid rfl 23 (.tmp 5) (.tmp 26) rfl g5 0 pz.toArray rfl rfl TH5 IN5 HOZ.out ?_
           simp only [Act.put]
           generalize hw6 : World.setCells _ g5 0 pz.toArray.toList = w6
           have G6 : Blk w6 g5 pz := by rw [← hw6]; exact HB6.out
           have F6 : Blk w6 w.heap.size (pcel zpc) := by rw [← hw6]; exact HBB.out
           have L6 : Below w.heap.size w w6 := by rw [← hw6]; exact HBL6.out
           have f4 := G6.frozen 4
           have S4 := G6.set 4 (.string sb)
           rw [HZC.out] at S4
           have F7 := F6.setOther (b := g5) 4 (.string sb) HNE.out.2
           have L7 := L6.setCell (p := ⟨g5, 4, none⟩) HNE.out.1 (.string sb)
           have RG := S4.range 0 pc (by rw [List.drop_zero, List.take_length])
           have q4 : w6.cell? ⟨g5, 4, none⟩ = some (.string { data := #[] }) := G6.cell (j := 4) (by rw [HPZ.out]; rfl)
           clear hw6 TH5 IN5 HB6 HBB HBL6)
        | (refine wpList_exec (by rfl) (.string sb) (exec_cuts 31 34 rfl l m (by omega) sb HS3.out rfl rfl _) ?_)
        | (refine wpList_load_mid rfl 23 (.tmp 5) rfl g5 0 rfl pc _ RG hu rfl (by rw [HLC.out]; exact info_rpie) ?_)
        | fail)
      refine (HPT.out _).mono ?_
      rintro e w7 ⟨rfl, h7⟩
      have G8 := S4.later h7
      have F8 := F7.later h7
      have L8 := L7.trans (h7.mono L7.size)
      have RG7 := G8.range 0 pc (by rw [List.drop_zero, List.take_length])
      clear RG h7 S4 F7 L7 h74 G6 F6 L6 f4 q4
      by_cases he : pbs (cand l) = l
      · have HO : Hid (getOut l = (cand l, true)) := Lib.hid (by rw [HG.out]; exact if_pos ⟨h52, he⟩)
        rw [he]
        obtain ⟨TH, HF, HL⟩ := blk_turn (ds := pc) F8 (by rw [HLC.out]; rfl) L8
        have HF := Lib.hid HF
        have HL := Lib.hid HL
        have IN7 : (Try.prog.info? 23).map (·.size) = some pc.toArray.size := by rw [(List.size_toArray).trans HLC.out]; exact info_rpie
        have hq : (!(str l).toList == (str l).toList) = false := by simp
        clear F8 L8 G8
        go_wp2_with (first
          | (refine wpList_load_mid rfl 23 (.tmp 5) rfl g5 0 rfl pc _ RG7 hu rfl (by rw [HLC.out]; exact info_rpie) ?_)
          | (refine wpList_store_mid rfl 23 (.tmp 2) (.tmp 42) rfl w.heap.size 0 (pc).toArray rfl rfl TH IN7 HON.out ?_
             simp only [Act.put]
             generalize hw4 : World.setCells _ w.heap.size 0 (pc).toArray.toList = w4
             have FIN : Blk w4 w.heap.size (pc) := by rw [← hw4]; exact HF.out
             have LEF : Below w.heap.size w w4 := by rw [← hw4]; exact HL.out
             clear hw4)
          | fail)
        exact bodyPost_ret (v := .tuple #[.agg pc.toArray, .bool true]) (results_blk_tmp (p := 3) (q := 2) rfl _ _ w.heap.size pc _ _ rfl rfl FIN hu rfl (by rw [HLC.out]; exact info_rpie)) rfl ⟨by rw [HO.out, HPQ.out], LEF⟩
      · have HO : Hid (getOut l = (zpc, false)) := Lib.hid (by rw [HG.out]; exact if_neg (fun h => he h.2))
        obtain ⟨TH, HF, HL⟩ := blk_turn (ds := pcel zpc) F8 rfl L8
        have HF := Lib.hid HF
        have HL := Lib.hid HL
        have hq : (!(str (pbs (cand l))).toList == (str l).toList) = true := by
          rw [str_list, str_list]
          simpa using he
        obtain ⟨sT, hsT⟩ : ∃ z, z = str (pbs (cand l)) := ⟨_, rfl⟩
        rw [← hsT] at hq ⊢
        clear F8 L8 G8 RG7 hsT
        go_wp2_with (first
          | (refine wpList_store_mid rfl 23 (.tmp 2) (.tmp 41) rfl w.heap.size 0 (pcel zpc).toArray rfl rfl TH info_rpie ONZ ?_
             simp only [Act.put]
             generalize hw4 : World.setCells _ w.heap.size 0 (pcel zpc).toArray.toList = w4
             have FIN : Blk w4 w.heap.size (pcel zpc) := by rw [← hw4]; exact HF.out
             have LEF : Below w.heap.size w w4 := by rw [← hw4]; exact HL.out
             clear hw4)
          | fail)
        exact bodyPost_ret (v := .tuple #[.agg (pcel zpc).toArray, .bool false]) (results_blk_tmp (p := 3) (q := 2) rfl _ _ w.heap.size (pcel zpc) _ _ rfl rfl FIN hu rfl info_rpie) rfl ⟨by rw [HO.out], LEF⟩
    · have HO : Hid (getOut l = (zpc, false)) := Lib.hid (by rw [HG.out]; exact if_neg (fun h => h52 h.1))
      have d52 : decide ((52 : Int) < (m : Int)) = true := decide_eq_true (by omega)
      go_wp2_with (first
        | (refine wpList_store_mid rfl 23 (.tmp 5) (.tmp 26) rfl g5 0 pz.toArray rfl rfl TH5 IN5 HOZ.out ?_
           simp only [Act.put]
           generalize hw6 : World.setCells _ g5 0 pz.toArray.toList = w6
           have F6 : Blk w6 w.heap.size (pcel zpc) := by rw [← hw6]; exact HBB.out
           have L6 : Below w.heap.size w w6 := by rw [← hw6]; exact HBL6.out
           obtain ⟨TH, HF, HL⟩ := blk_turn (ds := pcel zpc) F6 rfl L6
           have HF := Lib.hid HF
           have HL := Lib.hid HL
           clear hw6 TH5 IN5 HB6 HBB HBL6 F6 L6)
        | (refine wpList_store_mid rfl 23 (.tmp 2) (.tmp 30) rfl w.heap.size 0 (pcel zpc).toArray rfl rfl TH info_rpie ONZ ?_
           simp only [Act.put]
           generalize hw4 : World.setCells _ w.heap.size 0 (pcel zpc).toArray.toList = w4
           have FIN : Blk w4 w.heap.size (pcel zpc) := by rw [← hw4]; exact HF.out
           have LEF : Below w.heap.size w w4 := by rw [← hw4]; exact HL.out
           clear hw4)
        | fail)
      exact bodyPost_ret (v := .tuple #[.agg (pcel zpc).toArray, .bool false]) (results_blk_tmp (p := 3) (q := 2) rfl _ _ w.heap.size (pcel zpc) _ _ rfl rfl FIN hu rfl info_rpie) rfl ⟨by rw [HO.out], LEF⟩
  · have HO : Hid (getOut l = (zpc, false)) := Lib.hid (by unfold getOut; exact if_neg (fun h => h64 h.1))
    rw [HO.out]
    obtain ⟨TH, HF, HL⟩ := blk_turn (ds := pcel zpc) B0 rfl hb0
    have HF := Lib.hid HF
    have HL := Lib.hid HL
    have ON := all_oneCell_toArray (pcel_one zpc)
    obtain ⟨sl, hsl⟩ : ∃ sl, sl = str l := ⟨_, rfl⟩
    rw [← hsl] at hz ⊢
    obtain ⟨n, hn⟩ : ∃ n, n = l.length := ⟨_, rfl⟩
    rw [← hn] at hz h64 hl
    have hne : ((n : Int) != 64) = true := by simp; omega
    clear B0 hb0 hsl hn
    go_enter Try.func8, Try.ntmps8
    go_wp2_with (first
      | (refine wpList_store_mid rfl 23 (.tmp 2) (.tmp 9) rfl w.heap.size 0 (pcel zpc).toArray rfl rfl TH info_rpie ON ?_
         simp only [Act.put]
         generalize hw4 : World.setCells _ w.heap.size 0 (pcel zpc).toArray.toList = w4
         have FIN : Blk w4 w.heap.size (pcel zpc) := by rw [← hw4]; exact HF.out
         have LEF : Below w.heap.size w w4 := by rw [← hw4]; exact HL.out
         clear hw4)
      | fail)
    exact bodyPost_ret (v := .tuple #[.agg (pcel zpc).toArray, .bool false]) (results_blk_tmp (p := 3) (q := 2) rfl _ _ w.heap.size (pcel zpc) _ _ rfl rfl FIN hu rfl info_rpie) rfl ⟨rfl, LEF⟩
end Go.Proofs.Ytgoebblcggdlgaa
