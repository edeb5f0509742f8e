/- Pieces: the program's Get: what it returns. -/
import Derived.Test.YtgoebblcggdlgaaPieD
import Derived.Test.YtgoebblcggdlgaaTail
namespace Go.Proofs.Ytgoebblcggdlgaa
set_option linter.unusedVariables false
set_option linter.unusedSimpArgs false
open Go Go.RowKit OctM SumM

/-- The kind of a sector: its tenth byte. -/
def knd (l : List UInt8) : Nat := (l.getD 9 0).toNat
/-- The piece that a sector may be of. -/
def cand (l : List UInt8) : Pc := ((nu (l.take 4) : Int), (nu ((l.drop 4).take 5) : Int), decide (knd l / 64 % 2 = 1), decide (knd l / 128 = 1), (l.drop 10).take (knd l % 64))
def zpc : Pc := (0, 0, false, false, [])
def getOut (l : List UInt8) : Pc × Bool := if l.length = 64 ∧ knd l % 64 ≤ 52 ∧ pbs (cand l) = l then (cand l, true) else (zpc, false)
theorem and_all : ∀ k : Fin 256, bits .and .i64 ((k.val : Nat) : Int) 63 = ((k.val % 64 : Nat) : Int) ∧ (bits .and .i64 ((k.val : Nat) : Int) 64 != 0) = decide (k.val / 64 % 2 = 1) ∧ (bits .and .i64 ((k.val : Nat) : Int) 128 != 0) = decide (k.val / 128 = 1) := by decide +kernel
theorem zero_pie (w : World) : (Instr.alloc 25 true (.tuple #[])).run Try.prog w = .ok (.pointer (some ⟨w.heap.size, 0, none⟩)) (w.alloc (.cells (pcel zpc).toArray 25)) := by kernel_rfl
theorem results_blk_tmp {P : Program} {fn : Func} {p q : Tmp} {ty : TypeId} (h : fn.results = #[.cell q ty, .tmp p]) (tmps : Array Value) (w : World) (g : Nat) (cs : List Value) (d : TypeDesc) (v : Value) (hp : tmps.getD p undef = v)
    (hq : tmps.getD q undef = .pointer (some ⟨g, 0, none⟩)) (hB : Blk w g cs)
    (hu : P.underlying ty = some d) (hd : (match d with | .struct _ | .array _ _ => true | _ => false) = true) (hi : (P.info? ty).map (·.size) = some cs.length) :
    (results fn tmps).run P w = .ok (.tuple #[.agg cs.toArray, v]) w := by
  obtain ⟨t, hB⟩ := hB
  subst hp
  have hq' : tmps[q]?.getD undef = .pointer (some ⟨g, 0, none⟩) := by simpa using hq
  simp [results, h, hq', asAddr, run_loadVar_row w g t ty cs.toArray (0, 0) d hB hu hd (by simpa using hi)]
def relB (B : Nat) (cs : List Value) : Rel where
  rel x w := ∃ g, x = .pointer (some ⟨g, 0, none⟩) ∧ B ≤ g ∧ Blk w g cs
  mono := fun x w w' h ⟨g, e, hg, hr⟩ => ⟨g, e, hg, hr.later h⟩
  real := fun w ⟨g, e, _⟩ => by cases e
theorem newP_gives {a : Act} {op : Oper} (ho : op.op = .alloc 25) (B : Nat) (w : World) (hB : B ≤ w.heap.size) : gives Try.prog op a (relB B (pcel zpc)).rel w := by
  unfold gives execOp
  simp only [ho, Sem.run_bind, zero_pie, Result.andThen_ok, Sem.run_pure]
  exact ⟨(Below.refl _ _).alloc (Nat.le_refl _) _, _, rfl, hB, Blk.new w _ _⟩
theorem str_mid (l : List UInt8) (a b : Nat) : (str l).extract a (a + b) = str ((l.drop a).take b) := by
  apply ByteArray.ext
  simp [str, ByteArray.data_extract]
theorem run_cut (l : List UInt8) (m : Nat) (h : 10 + m ≤ l.length) (w : World) : (Instr.slice 9 (.string (str l)) (some (.int .i64 10)) (some (.int .i64 (10 + (m : Int)))) none).run Try.prog w = .ok (.string ((str l).extract 10 (10 + m))) w := by
  have hz := str_size l
  have h2 := run_slice_string (P := Try.prog) (w := w) 9 (str l) .i64 .i64 10 (10 + (m : Int)) Try.underlying9 (by omega) (by omega) (by omega)
  rw [show (10 + (m : Int)).toNat = 10 + m by omega, show (10 : Int).toNat = 10 from rfl] at h2
  exact h2
theorem exec_cut {a : Act} {o : Oper} (x y : Tmp) (ho : o.op = .slice 9 (.tmp x) (some (.const (.int .i64 10))) (some (.tmp y)) none) (l : List UInt8) (m : Nat) (h : 10 + m ≤ l.length) (hx : a.eval (.tmp x) = .string (str l)) (hy : a.eval (.tmp y) = .int .i64 (10 + (m : Int))) (w : World) : (execOp a.eval o).run Try.prog w = .ok (.value (.string ((str l).extract 10 (10 + m)))) w := by
  unfold execOp
  simp only [ho, Option.map_some, Option.map_none, Act.eval, Sem.run_bind, Sem.run_pure, Result.andThen_ok]
  rw [show a.tmps.getD x undef = Value.string (str l) from hx, show a.tmps.getD y undef = Value.int .i64 (10 + (m : Int)) from hy, run_sliceAt_string (h := Try.underlying9), run_cut l m h w]
  rfl
/-- A whole block turned: what it holds then, and what stays. -/
theorem blk_turn {w w0 : World} {cs ds : List Value} (h : Blk w w0.heap.size cs) (hl : ds.length = cs.length) (hb : Below w0.heap.size w0 w) : w.there w0.heap.size 0 ds.toArray.size ∧ Blk (w.setCells w0.heap.size 0 ds) w0.heap.size ds ∧ Below w0.heap.size w0 (w.setCells w0.heap.size 0 ds) := by
  refine ⟨?_, h.wholeT hl, below_sets (Nat.le_refl _) _ 0 hb⟩
  have e : ds.toArray.size = ds.length := by simp
  rw [e]
  exact h.there 0 _ (by omega)
set_option maxRecDepth 100000 in
set_option maxHeartbeats 3200000 in
theorem get_any (l : List UInt8) (hl : l.length ≤ 4096) (w : World) : Calls Try.prog 7 #[.string (str l)] w fun e w' => e = .returned (.tuple #[.agg (pcel (getOut l).1).toArray, .bool (getOut l).2]) ∧ Below w.heap.size w w' := by
  have hu := Try.underlying25
  have B0 := Blk.new w (pcel zpc) 25
  have hb0 := (Below.refl w.heap.size w).alloc (Nat.le_refl _) (.cells (pcel zpc).toArray 25)
  have hz := str_size l
  by_cases h64 : l.length = 64
  · have hz9 : 9 < (str l).size := by rw [hz, h64]; decide
    have h9 : 9 < l.length := by rw [h64]; decide
    have hk0 : knd l = l[9].toNat := by unfold knd; rw [List.getD_eq_getElem?_getD, List.getElem?_eq_getElem h9]; rfl
    obtain ⟨c, hc⟩ : ∃ c, c = l[9] := ⟨_, rfl⟩
    have hget : (str l)[9]'hz9 = c := (str_get l 9 hz9).trans hc.symm
    rw [← hc] at hk0
    have hcl := c.toNat_lt
    obtain ⟨a1, a2, a3⟩ := and_all ⟨c.toNat, hcl⟩
    dsimp only at a1 a2 a3
    rw [h64] at hz
    have HG : Hid (getOut l = if c.toNat % 64 ≤ 52 ∧ pbs (cand l) = l then (cand l, true) else (zpc, false)) := Lib.hid (by unfold getOut; rw [hk0]; simp [h64])
    have HN1 : Hid (∀ wx, Calls Try.prog 24 #[.string ((str l).extract 0 4)] wx fun e w' => e = .returned (.int .i64 (nu (l.take 4) : Int)) ∧ wx = w') := Lib.hid fun wx => by
      have e := str_mid l 0 4
      rw [Nat.zero_add, List.drop_zero] at e
      rw [e]
      exact number_any _ (by rw [List.length_take]; omega) wx
    have HN2 : Hid (∀ wx, Calls Try.prog 24 #[.string ((str l).extract 4 9)] wx fun e w' => e = .returned (.int .i64 (nu ((l.drop 4).take 5) : Int)) ∧ wx = w') := Lib.hid fun wx => by
      have e := str_mid l 4 5
      rw [show (str l).extract 4 9 = str ((l.drop 4).take 5) from e]
      exact number_any _ (by rw [List.length_take]; omega) wx
    have HX : Hid (cand l = ((nu (l.take 4) : Int), (nu ((l.drop 4).take 5) : Int), decide (c.toNat / 64 % 2 = 1), decide (c.toNat / 128 = 1), (l.drop 10).take (c.toNat % 64))) := Lib.hid (by unfold cand; rw [hk0])
    have HS3 : Hid ((str l).extract 10 (10 + c.toNat % 64) = str ((l.drop 10).take (c.toNat % 64))) := Lib.hid (str_mid l 10 _)
    obtain ⟨n1, hn1⟩ : ∃ z, z = nu (l.take 4) := ⟨_, rfl⟩
    rw [← hn1] at HN1 HX
    obtain ⟨n2, hn2⟩ : ∃ z, z = nu ((l.drop 4).take 5) := ⟨_, rfl⟩
    rw [← hn2] at HN2 HX
    obtain ⟨f, hf⟩ : ∃ z, z = decide (c.toNat / 64 % 2 = 1) := ⟨_, rfl⟩
    rw [← hf] at a2 HX
    obtain ⟨g, hg⟩ : ∃ z, z = decide (c.toNat / 128 = 1) := ⟨_, rfl⟩
    rw [← hg] at a3 HX
    obtain ⟨b, hb⟩ : ∃ z, z = (l.drop 10).take (c.toNat % 64) := ⟨_, rfl⟩
    rw [← hb] at HX HS3
    have HBL : Hid (b.length ≤ 4096) := Lib.hid (by rw [hb, List.length_take]; omega)
    clear hn1 hn2 hf hg hb hk0 hc h9
    by_cases h52 : c.toNat % 64 ≤ 52
    · have d52 : decide ((52 : Int) < ((c.toNat % 64 : Nat) : Int)) = false := decide_eq_false (by omega)
      obtain ⟨m, hm⟩ : ∃ m, m = c.toNat % 64 := ⟨_, rfl⟩
      rw [← hm] at a1 d52 h52 HS3 HG
      clear hm
      have B1 : Blk (w.alloc (.cells #[.int .i64 0, .int .i64 0, .bool false, .bool false, .string { data := #[] }] 25)) w.heap.size (pcel zpc) := B0
      have hb1 : Below w.heap.size w (w.alloc (.cells #[.int .i64 0, .int .i64 0, .bool false, .bool false, .string { data := #[] }] 25)) := hb0
      go_enter Try.func7, Try.ntmps7
      go_wp2_with fail
      generalize w.alloc (.cells #[Value.int .i64 0, .int .i64 0, .bool false, .bool false, .string { data := #[] }] 25) = w1 at B1 hb1 ⊢
      have HON := Lib.hid (all_oneCell_toArray (pcel_one (cand l)))
      have HPT := Lib.hid (fun wx => put_any (cand l) wx (by rw [HX.out]; exact HBL.out))
      obtain ⟨pc, hpc⟩ : ∃ pc, pc = pcel (cand l) := ⟨_, rfl⟩
      have HPC : Hid (pc = [.int .i64 (n1 : Int), .int .i64 (n2 : Int), .bool f, .bool g, .string (str b)]) := Lib.hid (by rw [hpc, HX.out]; rfl)
      rw [← hpc] at HON HPT
      have HPQ := Lib.hid hpc
      clear hpc
      have HLC : Hid (pc.length = 5) := Lib.hid (by rw [HPC.out]; rfl)
      obtain ⟨sb, hsb⟩ : ∃ sb, sb = str b := ⟨_, rfl⟩
      rw [← hsb] at HPC HS3
      clear B0 hb0 hsb
      refine wp_region_tail [(6, relB w1.heap.size (pcel zpc))] 42 18 (by kernel_rfl) (by kernel_rfl) (by kernel_rfl) (by rfl) ?_
      simp only [List.take_succ_cons, List.take_zero, List.drop_succ_cons, List.drop_zero]
      iterate 2 (refine wpG_quiet (by rfl) (by rfl) (by rfl) (fun K hK => ?_); go_big_quiet_op; refine hK _ ?_; clear hK K)
      refine wpG_call (by rfl) (by rfl) 24 #[.string ((str l).extract 0 4)] (.int .i64 (n1 : Int)) (by intro _; simp [go_sem]) (by kernel_rfl) (fun wx hl => (HN1.out wx).mono (fun e w' h => ⟨h.1, h.2 ▸ Below.refl _ _⟩)) ?_
      simp only [Act.put, List.setIfInBounds_toArray, List.set_cons_zero, List.set_cons_succ]
      iterate 2 (refine wpG_quiet (by rfl) (by rfl) (by rfl) (fun K hK => ?_); go_big_quiet_op; refine hK _ ?_; clear hK K)
      refine wpG_call (by rfl) (by rfl) 24 #[.string ((str l).extract 4 9)] (.int .i64 (n2 : Int)) (by intro _; simp [go_sem]) (by kernel_rfl) (fun wx hl => (HN2.out wx).mono (fun e w' h => ⟨h.1, h.2 ▸ Below.refl _ _⟩)) ?_
      simp only [Act.put, List.setIfInBounds_toArray, List.set_cons_zero, List.set_cons_succ]
      iterate 9 (refine wpG_quiet (by rfl) (by rfl) (by rfl) (fun K hK => ?_); go_big_quiet_op; refine hK _ ?_; clear hK K)
      have h74 : 10 + m ≤ 64 := by omega
      refine wpG_run (by rfl) (by rfl) (.string ((str l).extract 10 (10 + m))) (fun wx hl => exec_cut 31 33 rfl l m (by omega) rfl rfl wx) ?_
      simp only [Act.put, List.setIfInBounds_toArray, List.set_cons_zero, List.set_cons_succ]
      rw [HS3.out]
      iterate 1 (refine wpG_quiet (by rfl) (by rfl) (by rfl) (fun K hK => ?_); go_big_quiet_op; refine hK _ ?_; clear hK K)
      rw [show #[Value.int .i64 (n1 : Int), .int .i64 (n2 : Int), .bool f, .bool g, .string sb] = pc.toArray from by rw [HPC.out]]
      refine wpG_open (relB w1.heap.size (pcel zpc)) (by rfl) (by rfl) (fun wx hl => newP_gives rfl w1.heap.size wx hl.1.size) ?_
      rintro _ ⟨_, _, _, ⟨g5, rfl, _⟩⟩
      simp only [Act.put, List.setIfInBounds_toArray, List.set_cons_zero, List.set_cons_succ]
      refine wpG_nil fun w5 hl hS => ?_
      obtain ⟨_, ⟨g6, eg, hg6, hB5⟩⟩ := hS
      cases eg
      have hb5 := hb1.trans (hl.mono hb1.size)
      have B5 := B1.later hl
      have hB6 := hB5.wholeT (ds := pc) (by rw [HLC.out]; rfl)
      have hlt1 := B1.lt
      have hb6 := below_sets (Nat.le_trans hb1.size hg6) pc 0 hb5
      have B6 := Blk.setsOther (b := g5) (by omega) pc 0 B5
      have hs5 : pc.toArray.size = 5 := (List.size_toArray).trans HLC.out
      have TH5 : w5.there g5 0 pc.toArray.size := by rw [hs5]; exact hB5.there 0 5 (Nat.le_refl _)
      have IN5 : (Try.prog.info? 25).map (·.size) = some pc.toArray.size := by rw [hs5]; exact info_pie
      have HB6 := Lib.hid hB6
      have HBB := Lib.hid B6
      have HBL6 := Lib.hid hb6
      clear hB6 B6 hb6 hB5 B5 hb5 hl hg6 hs5 B1 hb1
      go_wp2_with (first
        | (refine wpList_store_mid rfl 25 (.tmp 6) (.tmp 35) rfl g5 0 pc.toArray rfl rfl TH5 IN5 HON.out ?_
           simp only [Act.put]
           generalize hw6 : World.setCells _ g5 0 pc.toArray.toList = w6
           have G6 : Blk w6 g5 pc := by rw [← hw6]; exact HB6.out
           have F6 : Blk w6 w.heap.size (pcel zpc) := by rw [← hw6]; exact HBB.out
           have L6 : Below w.heap.size w w6 := by rw [← hw6]; exact HBL6.out
           have RG := G6.range 0 pc (by rw [List.drop_zero, List.take_length])
           clear hw6 TH5 IN5 HB6 HBB HBL6)
        | (refine wpList_load_mid rfl 25 (.tmp 6) rfl g5 0 rfl pc _ RG hu rfl (by rw [HLC.out]; exact info_pie) ?_)
        | fail)
      refine (HPT.out _).mono ?_
      rintro e w7 ⟨rfl, h7⟩
      have G7 := G6.later h7
      have F7 := F6.later h7
      have L7 := L6.trans (h7.mono L6.size)
      have RG7 := G7.range 0 pc (by rw [List.drop_zero, List.take_length])
      clear RG h7 G6 F6 L6 h74
      by_cases he : pbs (cand l) = l
      · have HO : Hid (getOut l = (cand l, true)) := Lib.hid (by rw [HG.out]; exact if_pos ⟨h52, he⟩)
        rw [he]
        obtain ⟨TH, HF, HL⟩ := blk_turn (ds := pc) F7 (by rw [HLC.out]; rfl) L7
        have HF := Lib.hid HF
        have HL := Lib.hid HL
        have IN7 : (Try.prog.info? 25).map (·.size) = some pc.toArray.size := by rw [(List.size_toArray).trans HLC.out]; exact info_pie
        have hq : (!(str l).toList == (str l).toList) = false := by simp
        clear F7 L7 G7
        go_wp2_with (first
          | (refine wpList_load_mid rfl 25 (.tmp 6) rfl g5 0 rfl pc _ RG7 hu rfl (by rw [HLC.out]; exact info_pie) ?_)
          | (refine wpList_store_mid rfl 25 (.tmp 2) (.tmp 41) rfl w.heap.size 0 pc.toArray rfl rfl TH IN7 HON.out ?_
             simp only [Act.put]
             generalize hw4 : World.setCells _ w.heap.size 0 pc.toArray.toList = w4
             have FIN : Blk w4 w.heap.size pc := by rw [← hw4]; exact HF.out
             have LEF : Below w.heap.size w w4 := by rw [← hw4]; exact HL.out
             clear hw4)
          | fail)
        exact bodyPost_ret (v := .tuple #[.agg pc.toArray, .bool true]) (results_blk_tmp (p := 3) (q := 2) rfl _ _ w.heap.size pc _ _ rfl rfl FIN hu rfl (by rw [HLC.out]; exact info_pie)) rfl ⟨by rw [HO.out, HPQ.out], LEF⟩
      · have HO : Hid (getOut l = (zpc, false)) := Lib.hid (by rw [HG.out]; exact if_neg (fun h => he h.2))
        obtain ⟨TH, HF, HL⟩ := blk_turn (ds := pcel zpc) F7 rfl L7
        have HF := Lib.hid HF
        have HL := Lib.hid HL
        have ON := all_oneCell_toArray (pcel_one zpc)
        have hq : (!(str (pbs (cand l))).toList == (str l).toList) = true := by
          rw [str_list, str_list]
          simpa using he
        obtain ⟨sT, hsT⟩ : ∃ z, z = str (pbs (cand l)) := ⟨_, rfl⟩
        rw [← hsT] at hq ⊢
        clear F7 L7 G7 RG7 hsT
        go_wp2_with (first
          | (refine wpList_store_mid rfl 25 (.tmp 2) (.tmp 40) rfl w.heap.size 0 (pcel zpc).toArray rfl rfl TH info_pie ON ?_
             simp only [Act.put]
             generalize hw4 : World.setCells _ w.heap.size 0 (pcel zpc).toArray.toList = w4
             have FIN : Blk w4 w.heap.size (pcel zpc) := by rw [← hw4]; exact HF.out
             have LEF : Below w.heap.size w w4 := by rw [← hw4]; exact HL.out
             clear hw4)
          | fail)
        exact bodyPost_ret (v := .tuple #[.agg (pcel zpc).toArray, .bool false]) (results_blk_tmp (p := 3) (q := 2) rfl _ _ w.heap.size (pcel zpc) _ _ rfl rfl FIN hu rfl info_pie) rfl ⟨by rw [HO.out], LEF⟩
    · have HO : Hid (getOut l = (zpc, false)) := Lib.hid (by rw [HG.out]; exact if_neg (fun h => h52 h.1))
      have d52 : decide ((52 : Int) < ((c.toNat % 64 : Nat) : Int)) = true := decide_eq_true (by omega)
      obtain ⟨m, hm⟩ : ∃ m, m = c.toNat % 64 := ⟨_, rfl⟩
      rw [← hm] at a1 d52
      rw [HO.out]
      obtain ⟨TH, HF, HL⟩ := blk_turn (ds := pcel zpc) B0 rfl hb0
      have HF := Lib.hid HF
      have HL := Lib.hid HL
      have ON := all_oneCell_toArray (pcel_one zpc)
      clear B0 hb0 hm
      go_enter Try.func7, Try.ntmps7
      go_wp2_with (first
        | (refine wpList_store_mid rfl 25 (.tmp 2) (.tmp 18) rfl w.heap.size 0 (pcel zpc).toArray rfl rfl TH info_pie ON ?_
           simp only [Act.put]
           generalize hw4 : World.setCells _ w.heap.size 0 (pcel zpc).toArray.toList = w4
           have FIN : Blk w4 w.heap.size (pcel zpc) := by rw [← hw4]; exact HF.out
           have LEF : Below w.heap.size w w4 := by rw [← hw4]; exact HL.out
           clear hw4)
        | fail)
      exact bodyPost_ret (v := .tuple #[.agg (pcel zpc).toArray, .bool false]) (results_blk_tmp (p := 3) (q := 2) rfl _ _ w.heap.size (pcel zpc) _ _ rfl rfl FIN hu rfl info_pie) rfl ⟨rfl, LEF⟩
  · have HO : Hid (getOut l = (zpc, false)) := Lib.hid (by unfold getOut; exact if_neg (fun h => h64 h.1))
    rw [HO.out]
    obtain ⟨TH, HF, HL⟩ := blk_turn (ds := pcel zpc) B0 rfl hb0
    have HF := Lib.hid HF
    have HL := Lib.hid HL
    have ON := all_oneCell_toArray (pcel_one zpc)
    obtain ⟨sl, hsl⟩ : ∃ sl, sl = str l := ⟨_, rfl⟩
    rw [← hsl] at hz ⊢
    obtain ⟨n, hn⟩ : ∃ n, n = l.length := ⟨_, rfl⟩
    rw [← hn] at hz h64 hl
    have hne : ((n : Int) != 64) = true := by simp; omega
    clear B0 hb0 hsl hn
    go_enter Try.func7, Try.ntmps7
    go_wp2_with (first
      | (refine wpList_store_mid rfl 25 (.tmp 2) (.tmp 10) rfl w.heap.size 0 (pcel zpc).toArray rfl rfl TH info_pie ON ?_
         simp only [Act.put]
         generalize hw4 : World.setCells _ w.heap.size 0 (pcel zpc).toArray.toList = w4
         have FIN : Blk w4 w.heap.size (pcel zpc) := by rw [← hw4]; exact HF.out
         have LEF : Below w.heap.size w w4 := by rw [← hw4]; exact HL.out
         clear hw4)
      | fail)
    exact bodyPost_ret (v := .tuple #[.agg (pcel zpc).toArray, .bool false]) (results_blk_tmp (p := 3) (q := 2) rfl _ _ w.heap.size (pcel zpc) _ _ rfl rfl FIN hu rfl info_pie) rfl ⟨rfl, LEF⟩
end Go.Proofs.Ytgoebblcggdlgaa
