/- CardTells: the walk. -/
import Derived.Test.YtgdidamjgaegkaaCardT
import Derived.Test.YtgdidamjgaegkaaCardX
import Derived.Test.YtgdidamjgaegkaaCardU
import Derived.Test.YtgdidamjgaegkaaCardZ
namespace Go.Proofs.Ytgdidamjgaegkaa
set_option linter.unusedVariables false
open Go Go.RowKit BitM

/-- A slot that holds a slice of two cards. -/
def relTwo (u v : C4) : Rel where
  rel x w := ∃ g, x = .slice (some ⟨g, 0, none⟩) 2 2 ∧ Rows w g 0 [u, v]
  mono := fun x w w' h ⟨g, e, hr⟩ => ⟨g, e, hr.later h⟩
  real := fun w ⟨g, e, _⟩ => by cases e
theorem exec_two {a : Act} {op : Oper} (x y : Operand) (u v : C4) (ho : op.op = .buildSlice 32 2 #[(0, x), (1, y)]) (hx : a.eval x = .agg (cc4 u).toArray) (hy : a.eval y = .agg (cc4 v).toArray)
    (hu : u.2.2.2.length = 8) (hv : v.2.2.2.length = 8) (w : World) : (execOp a.eval op).run Try.prog w = .ok (.value (.slice (some ⟨w.heap.size, 0, none⟩) 2 2)) (w.alloc (.cells (cc4 u ++ cc4 v).toArray 27)) := by
  unfold execOp
  simp only [ho, List.map_toArray, List.map_cons, List.map_nil, hx, hy, Sem.run_bind, run_two u v hu hv, Result.andThen_ok, Sem.run_pure]
theorem two_gives {a : Act} {op : Oper} (x y : Operand) (u v : C4) (ho : op.op = .buildSlice 32 2 #[(0, x), (1, y)]) (hx : a.eval x = .agg (cc4 u).toArray) (hy : a.eval y = .agg (cc4 v).toArray)
    (hu : u.2.2.2.length = 8) (hv : v.2.2.2.length = 8) (w : World) : gives Try.prog op a (relTwo u v).rel w := by
  unfold gives
  rw [exec_two x y u v ho hx hy hu hv w]
  exact ⟨(Below.refl _ _).alloc (Nat.le_refl _) _, _, rfl, rows_two u v hu hv w⟩
theorem wpList_two {ops : Array Oper} {rest : List Oper} {op : Oper} {a : Act} {w : World} {Q : Exit → Act → World → Prop} (hw : Region.wanted op (yielded ops a.tmps) = true) (x y : Operand) (u v : C4) (ho : op.op = .buildSlice 32 2 #[(0, x), (1, y)])
    (hx : a.eval x = .agg (cc4 u).toArray) (hy : a.eval y = .agg (cc4 v).toArray) (hu : u.2.2.2.length = 8) (hv : v.2.2.2.length = 8)
    (h : wpList Try.prog ops Q rest (a.put op.dst (.slice (some ⟨w.heap.size, 0, none⟩) 2 2)) (w.alloc (.cells (cc4 u ++ cc4 v).toArray 27))) : wpList Try.prog ops Q (op :: rest) a w :=
  wpList_step fun K hK => by
    rw [if_pos hw]
    unfold Oper.wp
    rw [exec_two x y u v ho hx hy hu hv w]
    exact hK _ _ h
theorem two_iff (u v : C4) (b : Bool) (h : b = decide (u = v)) : b = true ↔ [u, v] = [v, u] := by
  subst h
  rw [decide_eq_true_eq]
  constructor
  · rintro rfl; rfl
  · intro h; injection h

set_option maxRecDepth 100000 in
set_option maxHeartbeats 6400000 in
theorem walk_card_tells (u v : C4) (pl : Int) (x : BitVec 32) (P : List V3) (w : World) (hu : u.2.2.2.length = 8) (hv : v.2.2.2.length = 8) (hP : P.length = 8) :
    Calls Try.prog 3 #[.agg (cc4 u).toArray, .agg (cc4 v).toArray, .agg (pcells (x.toNat : Int) pl P).toArray] w fun e w' => e = .returned (.bool true) ∧ Below w.heap.size w w' := by
  have HU := Lib.hid hu
  have HV := Lib.hid hv
  have HLu := Lib.hid (cc4_len u hu)
  have HLv := Lib.hid (cc4_len v hv)
  have HLP2 := Lib.hid (pcells_len (x.toNat : Int) pl hP)
  have HFU : Hid ((fcells u.2.2.2).length = 24) := Lib.hid (by rw [fcells_len, hu])
  have HFV : Hid ((fcells v.2.2.2).length = 24) := Lib.hid (by rw [fcells_len, hv])
  have HFP : Hid ((fcells P).length = 24) := Lib.hid (by rw [fcells_len, hP])
  have HA := Lib.hid (fun wx : World => large_any u.2.2.2 wx hu)
  have HB := Lib.hid (fun wx : World => large_any v.2.2.2 wx hv)
  have HC := Lib.hid (fun wx : World => large_any P wx hP)
  obtain ⟨ck, hck⟩ : ∃ ck, ck = ccheck u.1 u.2.1 u.2.2.1 u.2.2.2 := ⟨_, rfl⟩
  obtain ⟨pk0, hpk⟩ : ∃ pk0, pk0 = pchk x pl P := ⟨_, rfl⟩
  obtain ⟨dm, hdm⟩ : ∃ dm : Int, dm = ((dmask u.2.2.1 u.2.2.2 v.2.2.1 v.2.2.2).toNat : Int) := ⟨_, rfl⟩
  obtain ⟨sm, hsm⟩ : ∃ sm, sm = decide (u = v) := ⟨_, rfl⟩
  have HSM := Lib.hid (two_iff u v sm hsm)
  have HE := Lib.hid (fun wx : World => eq_c4 u v hu hv wx)
  rw [← hsm] at HE
  have HC1 := Lib.hid (fun wx : World => ccheck_any u.1 u.2.1 u.2.2.1 u.2.2.2 wx hu)
  have HC2 := Lib.hid (fun wx : World => rccheck_any u.1 u.2.1 u.2.2.1 u.2.2.2 wx hu)
  rw [← hck] at HC1 HC2
  have HP1 := Lib.hid (fun wx : World => pcheck_any x pl P wx hP)
  have HP2 := Lib.hid (fun wx : World => rpcheck_any x pl P wx hP)
  rw [← hpk] at HP1 HP2
  have HD1 := Lib.hid (fun wx : World => diff_any u.1 u.2.1 u.2.2.1 v.1 v.2.1 v.2.2.1 u.2.2.2 v.2.2.2 wx hu hv)
  have HD2 := Lib.hid (fun wx : World => rdiff_any u.1 u.2.1 u.2.2.1 v.1 v.2.1 v.2.2.1 u.2.2.2 v.2.2.2 wx hu hv)
  rw [← hdm] at HD1 HD2
  have B0 := Blk.new w (cc4 u) 27
  have B1 := Blk.new (w.alloc (.cells (cc4 u).toArray 27)) (cc4 v) 27
  have B2 := Blk.new ((w.alloc (.cells (cc4 u).toArray 27)).alloc (.cells (cc4 v).toArray 27)) (pcells (x.toNat : Int) pl P) 29
  have hw0 := (((Below.refl w.heap.size w).alloc (Nat.le_refl _) (.cells (cc4 u).toArray 27)).alloc (by simp) (.cells (cc4 v).toArray 27)).alloc (by simp; omega) (.cells (pcells (x.toNat : Int) pl P).toArray 29)
  replace B0 := (B0.alloc (.cells (cc4 v).toArray 27)).alloc (.cells (pcells (x.toNat : Int) pl P).toArray 29)
  replace B1 := B1.alloc (.cells (pcells (x.toNat : Int) pl P).toArray 29)
  have hs1 : (w.alloc (.cells (cc4 u).toArray 27)).heap.size = w.heap.size + 1 := by simp
  have hs2 : ((w.alloc (.cells (cc4 u).toArray 27)).alloc (.cells (cc4 v).toArray 27)).heap.size = w.heap.size + 2 := by simp
  rw [hs1] at B1
  rw [hs2] at B2
  obtain ⟨ca, hca⟩ : ∃ ca, ca = (cc4 u).toArray := ⟨_, rfl⟩
  obtain ⟨cb, hcb⟩ : ∃ cb, cb = (cc4 v).toArray := ⟨_, rfl⟩
  obtain ⟨pa, hpa⟩ : ∃ pa, pa = (pcells (x.toNat : Int) pl P).toArray := ⟨_, rfl⟩
  rw [← hca, ← hcb, ← hpa]
  rw [← hca, ← hcb, ← hpa] at B0 B1 B2 hw0
  generalize hW : ((w.alloc (.cells ca 27)).alloc (.cells cb 27)).alloc (.cells pa 29) = W at *
  have HW := Lib.hid hW
  have HBW := Lib.hid hw0
  clear hca hcb hpa hs1 hs2 hW hw0 hP hck hpk hdm hsm hu hv
  have RF := Blk.fieldsC (id := u.1) (ver := u.2.1) (lab := u.2.2.1) (f := u.2.2.2) B0
  have hu8 := Try.underlying25
  have hu27 := Try.underlying27
  have hu29 := Try.underlying29
  rw [← HW.out] at RF
  cases ht : tooLong u.2.2.2 with
  | true =>
    rw [ht] at HA
    clear ht
    go_enter Try.func3, Try.ntmps3
    go_wp2_with (first
      | (refine wpList_load_mid rfl 25 (.tmp 8) rfl (w.heap.size) 3 rfl (fcells u.2.2.2) _ RF hu8 rfl (by rw [HFU.out]; exact info_fields) ?_))
    rw [HW.out]
    refine (HA.out W).mono ?_
    rintro e w1 ⟨rfl, hb⟩
    have hb1 := HBW.out.trans (hb.mono HBW.out.size)
    clear RF
    go_wp2_with fail
    refine (aw_any _).mono ?_
    rintro e w9 ⟨rfl, b9⟩
    go_wp2_with fail
    go_ret
    exact ⟨rfl, hb1.trans (b9.mono hb1.size)⟩
  | false =>
    rw [ht] at HA
    clear ht
    go_enter Try.func3, Try.ntmps3
    go_wp2_with (first
      | (refine wpList_load_mid rfl 25 (.tmp 8) rfl (w.heap.size) 3 rfl (fcells u.2.2.2) _ RF hu8 rfl (by rw [HFU.out]; exact info_fields) ?_))
    rw [HW.out]
    refine (HA.out W).mono ?_
    rintro e w1 ⟨rfl, hb⟩
    have hb1 := HBW.out.trans (hb.mono HBW.out.size)
    have D0 := B0.later hb
    have D1 := B1.later hb
    have D2 := B2.later hb
    clear RF B0 B1 B2 HA hb HBW HW
    have RF := Blk.fieldsC (id := v.1) (ver := v.2.1) (lab := v.2.2.1) (f := v.2.2.2) D1
    cases ht : tooLong v.2.2.2 with
    | true =>
      rw [ht] at HB
      clear ht
      go_wp2_with (first
        | (refine wpList_load_g (by rfl) 25 (.tmp 12) rfl (w.heap.size + 1) 3 rfl (fcells v.2.2.2) _ RF hu8 rfl (by rw [HFV.out]; exact info_fields) ?_))
      refine (HB.out _).mono ?_
      rintro e w2 ⟨rfl, hb⟩
      have hb2 := hb1.trans (hb.mono hb1.size)
      clear RF
      go_wp2_with fail
      refine (aw_any _).mono ?_
      rintro e w9 ⟨rfl, b9⟩
      go_wp2_with fail
      go_ret
      exact ⟨rfl, hb2.trans (b9.mono hb2.size)⟩
    | false =>
      rw [ht] at HB
      clear ht
      go_wp2_with (first
        | (refine wpList_load_g (by rfl) 25 (.tmp 12) rfl (w.heap.size + 1) 3 rfl (fcells v.2.2.2) _ RF hu8 rfl (by rw [HFV.out]; exact info_fields) ?_))
      refine (HB.out _).mono ?_
      rintro e w2 ⟨rfl, hb⟩
      have hb2 := hb1.trans (hb.mono hb1.size)
      have E0 := D0.later hb
      have E1 := D1.later hb
      have E2 := D2.later hb
      clear RF D0 D1 D2 HB hb hb1
      have RF := E2.fieldsP
      cases ht : tooLong P with
      | true =>
        rw [ht] at HC
        clear ht
        go_wp2_with (first
          | (refine wpList_load_g (by rfl) 25 (.tmp 17) rfl (w.heap.size + 2) 2 rfl (fcells P) _ RF hu8 rfl (by rw [HFP.out]; exact info_fields) ?_))
        refine (HC.out _).mono ?_
        rintro e w3 ⟨rfl, hb⟩
        have hb3 := hb2.trans (hb.mono hb2.size)
        clear RF
        go_wp2_with fail
        refine (aw_any _).mono ?_
        rintro e w9 ⟨rfl, b9⟩
        go_wp2_with fail
        go_ret
        exact ⟨rfl, hb3.trans (b9.mono hb3.size)⟩
      | false =>
        rw [ht] at HC
        clear ht
        go_wp2_with (first
          | (refine wpList_load_g (by rfl) 25 (.tmp 17) rfl (w.heap.size + 2) 2 rfl (fcells P) _ RF hu8 rfl (by rw [HFP.out]; exact info_fields) ?_))
        refine (HC.out _).mono ?_
        rintro e w3 ⟨rfl, hb⟩
        have hb3 := hb2.trans (hb.mono hb2.size)
        have F0 := E0.later hb
        have F1 := E1.later hb
        have F2 := E2.later hb
        clear RF E0 E1 E2 HC hb hb2
        have RG0 := F0.wholeC
        have RG1 := F1.wholeC
        go_wp2_with (first
          | (refine wpList_load_mid rfl 27 (.tmp 3) rfl w.heap.size 0 rfl (cc4 u) _ RG0 hu27 rfl (by rw [HLu.out]; exact info_card) ?_)
          | (refine wpList_load_mid rfl 27 (.tmp 4) rfl (w.heap.size + 1) 0 rfl (cc4 v) _ RG1 hu27 rfl (by rw [HLv.out]; exact info_card) ?_)
          | (refine wpList_two (by rfl) (.tmp 22) (.tmp 23) u v rfl rfl rfl HU.out HV.out ?_))
        have C0 := F0.alloc (.cells (cc4 u ++ cc4 v).toArray 27)
        have C1 := F1.alloc (.cells (cc4 u ++ cc4 v).toArray 27)
        have C2 := F2.alloc (.cells (cc4 u ++ cc4 v).toArray 27)
        have RL := rows_two u v HU.out HV.out w3
        have hb4 := hb3.alloc hb3.size (.cells (cc4 u ++ cc4 v).toArray 27)
        clear RG0 RG1 F0 F1 F2
        generalize w3.alloc (.cells (cc4 u ++ cc4 v).toArray 27) = w4 at *
        obtain ⟨gl, hgl⟩ : ∃ gl, gl = w3.heap.size := ⟨_, rfl⟩
        rw [← hgl] at RL ⊢
        clear hgl hb3
        refine wp_region_steady [(50, relTwo v u), (61, relTwo u v)] 74 (by kernel_rfl) (by kernel_rfl) (by kernel_rfl) (by rfl) ?_
        refine wpG_run (by rfl) (by rfl) (.agg (cc4 u).toArray) (fun w1 hl => exec_load 27 (.tmp 3) rfl (w.heap.size) 0 rfl (cc4 u) _ ((C0.later hl.1).wholeC) hu27 rfl (by rw [HLu.out]; exact info_card)) ?_
        simp only [Act.put, List.setIfInBounds_toArray, List.set_cons_zero, List.set_cons_succ]
        refine wpG_call (by rfl) (by rfl) 12 #[.agg (cc4 u).toArray] (.bool ck) (by intro _; simp [go_sem]) (by kernel_rfl) (fun w1 hl => (HC1.out w1)) ?_
        simp only [Act.put, List.setIfInBounds_toArray, List.set_cons_zero, List.set_cons_succ]
        refine wpG_run (by rfl) (by rfl) (.agg (cc4 u).toArray) (fun w1 hl => exec_load 27 (.tmp 3) rfl (w.heap.size) 0 rfl (cc4 u) _ ((C0.later hl.1).wholeC) hu27 rfl (by rw [HLu.out]; exact info_card)) ?_
        simp only [Act.put, List.setIfInBounds_toArray, List.set_cons_zero, List.set_cons_succ]
        refine wpG_call (by rfl) (by rfl) 13 #[.agg (cc4 u).toArray] (.bool ck) (by intro _; simp [go_sem]) (by kernel_rfl) (fun w1 hl => (HC2.out w1)) ?_
        simp only [Act.put, List.setIfInBounds_toArray, List.set_cons_zero, List.set_cons_succ]
        refine wpG_run (by rfl) (by rfl) (.bool true) (fun w1 hl => by simp [go_sem]) ?_
        simp only [Act.put, List.setIfInBounds_toArray, List.set_cons_zero, List.set_cons_succ]
        iterate 1 (refine wpG_quiet (by rfl) (by rfl) (by rfl) (fun K hK => ?_); go_big_quiet_op; refine hK _ ?_; clear hK K)
        refine wpG_run (by rfl) (by rfl) (.agg (pcells (x.toNat : Int) pl P).toArray) (fun w1 hl => exec_load 29 (.tmp 5) rfl (w.heap.size + 2) 0 rfl (pcells (x.toNat : Int) pl P) _ ((C2.later hl.1).wholeC) hu29 rfl (by rw [HLP2.out]; exact info_patch)) ?_
        simp only [Act.put, List.setIfInBounds_toArray, List.set_cons_zero, List.set_cons_succ]
        refine wpG_call (by rfl) (by rfl) 14 #[.agg (pcells (x.toNat : Int) pl P).toArray] (.int .i64 pk0) (by intro _; simp [go_sem]) (by kernel_rfl) (fun w1 hl => (HP1.out w1)) ?_
        simp only [Act.put, List.setIfInBounds_toArray, List.set_cons_zero, List.set_cons_succ]
        refine wpG_run (by rfl) (by rfl) (.agg (pcells (x.toNat : Int) pl P).toArray) (fun w1 hl => exec_load 29 (.tmp 5) rfl (w.heap.size + 2) 0 rfl (pcells (x.toNat : Int) pl P) _ ((C2.later hl.1).wholeC) hu29 rfl (by rw [HLP2.out]; exact info_patch)) ?_
        simp only [Act.put, List.setIfInBounds_toArray, List.set_cons_zero, List.set_cons_succ]
        refine wpG_call (by rfl) (by rfl) 15 #[.agg (pcells (x.toNat : Int) pl P).toArray] (.int .i64 pk0) (by intro _; simp [go_sem]) (by kernel_rfl) (fun w1 hl => (HP2.out w1)) ?_
        simp only [Act.put, List.setIfInBounds_toArray, List.set_cons_zero, List.set_cons_succ]
        refine wpG_run (by rfl) (by rfl) (.bool true) (fun w1 hl => by simp [go_sem]) ?_
        simp only [Act.put, List.setIfInBounds_toArray, List.set_cons_zero, List.set_cons_succ]
        iterate 2 (refine wpG_quiet (by rfl) (by rfl) (by rfl) (fun K hK => ?_); go_big_quiet_op; refine hK _ ?_; clear hK K)
        refine wpG_run (by rfl) (by rfl) (.agg (cc4 u).toArray) (fun w1 hl => exec_load 27 (.tmp 3) rfl (w.heap.size) 0 rfl (cc4 u) _ ((C0.later hl.1).wholeC) hu27 rfl (by rw [HLu.out]; exact info_card)) ?_
        simp only [Act.put, List.setIfInBounds_toArray, List.set_cons_zero, List.set_cons_succ]
        refine wpG_run (by rfl) (by rfl) (.agg (cc4 v).toArray) (fun w1 hl => exec_load 27 (.tmp 4) rfl (w.heap.size + 1) 0 rfl (cc4 v) _ ((C1.later hl.1).wholeC) hu27 rfl (by rw [HLv.out]; exact info_card)) ?_
        simp only [Act.put, List.setIfInBounds_toArray, List.set_cons_zero, List.set_cons_succ]
        refine wpG_call (by rfl) (by rfl) 16 #[.agg (cc4 u).toArray, .agg (cc4 v).toArray] (.int .u32 dm) (by intro _; simp [go_sem]) (by kernel_rfl) (fun w1 hl => (HD1.out w1)) ?_
        simp only [Act.put, List.setIfInBounds_toArray, List.set_cons_zero, List.set_cons_succ]
        refine wpG_run (by rfl) (by rfl) (.agg (cc4 u).toArray) (fun w1 hl => exec_load 27 (.tmp 3) rfl (w.heap.size) 0 rfl (cc4 u) _ ((C0.later hl.1).wholeC) hu27 rfl (by rw [HLu.out]; exact info_card)) ?_
        simp only [Act.put, List.setIfInBounds_toArray, List.set_cons_zero, List.set_cons_succ]
        refine wpG_run (by rfl) (by rfl) (.agg (cc4 v).toArray) (fun w1 hl => exec_load 27 (.tmp 4) rfl (w.heap.size + 1) 0 rfl (cc4 v) _ ((C1.later hl.1).wholeC) hu27 rfl (by rw [HLv.out]; exact info_card)) ?_
        simp only [Act.put, List.setIfInBounds_toArray, List.set_cons_zero, List.set_cons_succ]
        refine wpG_call (by rfl) (by rfl) 17 #[.agg (cc4 u).toArray, .agg (cc4 v).toArray] (.int .u32 dm) (by intro _; simp [go_sem]) (by kernel_rfl) (fun w1 hl => (HD2.out w1)) ?_
        simp only [Act.put, List.setIfInBounds_toArray, List.set_cons_zero, List.set_cons_succ]
        refine wpG_run (by rfl) (by rfl) (.bool true) (fun w1 hl => by simp [go_sem]) ?_
        simp only [Act.put, List.setIfInBounds_toArray, List.set_cons_zero, List.set_cons_succ]
        iterate 2 (refine wpG_quiet (by rfl) (by rfl) (by rfl) (fun K hK => ?_); go_big_quiet_op; refine hK _ ?_; clear hK K)
        iterate 1 (refine wpG_quiet (by rfl) (by rfl) (by rfl) (fun K hK => ?_); go_big_quiet_op; refine hK _ ?_; clear hK K)
        refine wpG_run (by rfl) (by rfl) (.agg (cc4 v).toArray) (fun w1 hl => exec_load 27 (.tmp 4) rfl (w.heap.size + 1) 0 rfl (cc4 v) _ ((C1.later hl.1).wholeC) hu27 rfl (by rw [HLv.out]; exact info_card)) ?_
        simp only [Act.put, List.setIfInBounds_toArray, List.set_cons_zero, List.set_cons_succ]
        refine wpG_run (by rfl) (by rfl) (.agg (cc4 u).toArray) (fun w1 hl => exec_load 27 (.tmp 3) rfl (w.heap.size) 0 rfl (cc4 u) _ ((C0.later hl.1).wholeC) hu27 rfl (by rw [HLu.out]; exact info_card)) ?_
        simp only [Act.put, List.setIfInBounds_toArray, List.set_cons_zero, List.set_cons_succ]
        refine wpG_open (relTwo v u) (by rfl) (by rfl) (fun w1 hl => two_gives (.tmp 48) (.tmp 49) v u rfl rfl rfl HV.out HU.out w1) ?_
        rintro _ ⟨_, _, _, ⟨g2, rfl, _⟩⟩
        simp only [Act.put, List.setIfInBounds_toArray, List.set_cons_zero, List.set_cons_succ]
        refine wpG_call (by rfl) (by rfl) 18 #[.slice (some ⟨gl, 0, none⟩) 2 2, .slice (some ⟨g2, 0, none⟩) 2 2] (.bool sm) (by intro _; simp [go_sem]) (by kernel_rfl) (fun w1 hl => ?_) ?_
        · obtain ⟨g5, h5, r5⟩ := hl.2 50 _ (by simp [Op.operands, Call.operands]) rfl (by intro h; cases h)
          cases h5
          exact same_any gl 0 2 g2 0 2 2 [u, v] [v, u] w1 rfl rfl (by omega) (RL.later hl.1) r5 sm HSM.out
        simp only [Act.put, List.setIfInBounds_toArray, List.set_cons_zero, List.set_cons_succ]
        refine wpG_run (by rfl) (by rfl) (.agg (cc4 u).toArray) (fun w1 hl => exec_load 27 (.tmp 3) rfl (w.heap.size) 0 rfl (cc4 u) _ ((C0.later hl.1).wholeC) hu27 rfl (by rw [HLu.out]; exact info_card)) ?_
        simp only [Act.put, List.setIfInBounds_toArray, List.set_cons_zero, List.set_cons_succ]
        refine wpG_run (by rfl) (by rfl) (.agg (cc4 v).toArray) (fun w1 hl => exec_load 27 (.tmp 4) rfl (w.heap.size + 1) 0 rfl (cc4 v) _ ((C1.later hl.1).wholeC) hu27 rfl (by rw [HLv.out]; exact info_card)) ?_
        simp only [Act.put, List.setIfInBounds_toArray, List.set_cons_zero, List.set_cons_succ]
        refine wpG_run (by rfl) (by rfl) (.bool sm) (fun w1 hl => exec_eql 27 _ (.tmp 52) (.tmp 53) rfl _ _ rfl rfl guard_card sm (HE.out w1)) ?_
        simp only [Act.put, List.setIfInBounds_toArray, List.set_cons_zero, List.set_cons_succ]
        refine wpG_run (by rfl) (by rfl) (.bool true) (fun w1 hl => by simp [go_sem]) ?_
        simp only [Act.put, List.setIfInBounds_toArray, List.set_cons_zero, List.set_cons_succ]
        iterate 2 (refine wpG_quiet (by rfl) (by rfl) (by rfl) (fun K hK => ?_); go_big_quiet_op; refine hK _ ?_; clear hK K)
        iterate 1 (refine wpG_quiet (by rfl) (by rfl) (by rfl) (fun K hK => ?_); go_big_quiet_op; refine hK _ ?_; clear hK K)
        refine wpG_run (by rfl) (by rfl) (.agg (cc4 u).toArray) (fun w1 hl => exec_load 27 (.tmp 3) rfl (w.heap.size) 0 rfl (cc4 u) _ ((C0.later hl.1).wholeC) hu27 rfl (by rw [HLu.out]; exact info_card)) ?_
        simp only [Act.put, List.setIfInBounds_toArray, List.set_cons_zero, List.set_cons_succ]
        refine wpG_run (by rfl) (by rfl) (.agg (cc4 v).toArray) (fun w1 hl => exec_load 27 (.tmp 4) rfl (w.heap.size + 1) 0 rfl (cc4 v) _ ((C1.later hl.1).wholeC) hu27 rfl (by rw [HLv.out]; exact info_card)) ?_
        simp only [Act.put, List.setIfInBounds_toArray, List.set_cons_zero, List.set_cons_succ]
        refine wpG_open (relTwo u v) (by rfl) (by rfl) (fun w1 hl => two_gives (.tmp 59) (.tmp 60) u v rfl rfl rfl HU.out HV.out w1) ?_
        rintro _ ⟨_, _, _, ⟨g3, rfl, _⟩⟩
        simp only [Act.put, List.setIfInBounds_toArray, List.set_cons_zero, List.set_cons_succ]
        refine wpG_call (by rfl) (by rfl) 18 #[.slice (some ⟨gl, 0, none⟩) 2 2, .slice (some ⟨g3, 0, none⟩) 2 2] (.bool true) (by intro _; simp [go_sem]) (by kernel_rfl) (fun w1 hl => ?_) ?_
        · obtain ⟨g5, h5, r5⟩ := hl.2 61 _ (by simp [Op.operands, Call.operands]) rfl (by intro h; cases h)
          cases h5
          exact same_any gl 0 2 g3 0 2 2 [u, v] [u, v] w1 rfl rfl (by omega) (RL.later hl.1) r5 true ⟨fun _ => rfl, fun _ => rfl⟩
        simp only [Act.put, List.setIfInBounds_toArray, List.set_cons_zero, List.set_cons_succ]
        iterate 2 (refine wpG_quiet (by rfl) (by rfl) (by rfl) (fun K hK => ?_); go_big_quiet_op; refine hK _ ?_; clear hK K)
        iterate 3 (refine wpG_quiet (by rfl) (by rfl) (by rfl) (fun K hK => ?_); go_big_quiet_op; refine hK _ ?_; clear hK K)
        refine wpG_call (by rfl) (by rfl) 18 #[.slice (some ⟨gl, 0, none⟩) 2 2, .slice (some ⟨gl, 0, none⟩) 1 2] (.bool false) (by intro _; simp [go_sem]) (by kernel_rfl) (fun w1 hl => same_no _ _ 2 2 1 2 w1 (by omega) (by omega) (by omega)) ?_
        simp only [Act.put, List.setIfInBounds_toArray, List.set_cons_zero, List.set_cons_succ]
        refine wpG_run (by rfl) (by rfl) (.bool true) (fun w1 hl => by simp [go_sem]) ?_
        simp only [Act.put, List.setIfInBounds_toArray, List.set_cons_zero, List.set_cons_succ]
        iterate 2 (refine wpG_quiet (by rfl) (by rfl) (by rfl) (fun K hK => ?_); go_big_quiet_op; refine hK _ ?_; clear hK K)
        refine wpG_call (by rfl) (by rfl) 11 #[] (.bool true) (by intro _; simp [go_sem]) (by kernel_rfl) (fun w1 hl => (aw_any w1)) ?_
        simp only [Act.put, List.setIfInBounds_toArray, List.set_cons_zero, List.set_cons_succ]
        iterate 2 (refine wpG_quiet (by rfl) (by rfl) (by rfl) (fun K hK => ?_); go_big_quiet_op; refine hK _ ?_; clear hK K)
        refine wpG_nil fun w1 hl _ => ?_
        have hb5 := hb4.trans (hl.mono hb4.size)
        clear C0 C1 C2 RL hb4
        go_wp2_with fail
        go_ret
        exact ⟨rfl, hb5⟩
end Go.Proofs.Ytgdidamjgaegkaa
