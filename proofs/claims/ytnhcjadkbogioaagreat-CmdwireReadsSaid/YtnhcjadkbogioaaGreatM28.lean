/- Commands: are two the same? The document's word. -/
import Derived.Test.YtnhcjadkbogioaaGreatM18
import Derived.Test.YtnhcjadkbogioaaGreatM27
import Derived.Test.YtnhcjadkbogioaaGreatM22
import Derived.Test.YtnhcjadkbogioaaGreatM3
set_option maxRecDepth 100000
set_option linter.unusedVariables false
set_option linter.unusedSimpArgs false
set_option maxHeartbeats 12800000
namespace Go.Proofs.YtnhcjadkbogioaaGreat
open Go Go.RowKit OctM
theorem rcsame_e (x y : Cm) (w : World) (h : okCm w x) (h' : okCm w y) (hm : x.n ≤ 65536) (c_kd : x.kd = y.kd) (c_E : ee x y) (c_dv : x.dv = y.dv) (c_rq : x.rq = y.rq) (c_id : ¬ (x.id = y.id)) :
    Calls Tryz.prog 6 #[.agg (cmc x).toArray, .agg (cmc y).toArray] w fun e w' => e = .returned (.bool (decide (csm x y))) ∧ Below w.heap.size w w' := by
  have hue := Tryz.underlying38
  have hup := Tryz.underlying36
  have HEL := hid (cmE_len h.e8)
  have HPL := hid (cmP_len h.p8)
  have HEL' := hid (cmE_len h'.e8)
  have HPL' := hid (cmP_len h'.p8)
  have HHX := hid h
  have HHY := hid h'
  have B0 := (Blk.new w (cmc x) 41).alloc (.cells (cmc y).toArray 41)
  have B1 := Blk.new (w.alloc (.cells (cmc x).toArray 41)) (cmc y) 41
  rw [show (w.alloc (.cells (cmc x).toArray 41)).heap.size = w.heap.size + 1 by simp] at B1
  have hb : Below w.heap.size w ((w.alloc (.cells (cmc x).toArray 41)).alloc (.cells (cmc y).toArray 41)) := (below_a1C _ _).alloc (below_a1C _ _).size _
  have HB := hid hb
  have RE := B0.range 1 (cmE x) (cm_edit h.e8 h.p8)
  have RP := B0.range 35 (cmP x) (cm_patch h.e8 h.p8)
  have RE' := B1.range 1 (cmE y) (cm_edit h'.e8 h'.p8)
  have RP' := B1.range 35 (cmP y) (cm_patch h'.e8 h'.p8)
  obtain ⟨a0, a30, a31, a32, a33, a34, a61, a62⟩ := cm_at h.e8 h.p8
  obtain ⟨b0, b30, b31, b32, b33, b34, b61, b62⟩ := cm_at h'.e8 h'.p8
  have aq0 := B0.cell a0
  have aq30 := B0.cell a30
  have aq31 := B0.cell a31
  have aq32 := B0.cell a32
  have aq33 := B0.cell a33
  have aq34 := B0.cell a34
  have aq61 := B0.cell a61
  have aq62 := B0.cell a62
  have bq0 := B1.cell b0
  have bq30 := B1.cell b30
  have bq31 := B1.cell b31
  have bq32 := B1.cell b32
  have bq33 := B1.cell b33
  have bq34 := B1.cell b34
  have bq61 := B1.cell b61
  have bq62 := B1.cell b62
  have HB0 := hid B0
  have HB1 := hid B1
  have HP62 := hid a62
  have HQ62 := hid b62
  have hHT : decide (csm x y) = false := decide_eq_false (fun e => c_id (e.2.2.2.2.1))
  rw [hHT]
  have t_kd : (x.kd == y.kd) = true := by simp only [beq_iff_eq]; exact c_kd
  have HEQE : Hid (∀ wx : World, (Op.equalIn 10000 38 (.agg (cmE x).toArray) (.agg (cmE y).toArray)).run Tryz.prog wx = .ok true wx) := Lib.hid (fun wx => by
    have e := eq_editC 9995 x.ek x.eid x.eg (x.em.toNat : Int) (x.el.toNat : Int) y.ek y.eid y.eg (y.em.toNat : Int) (y.el.toNat : Int) x.ef y.ef HHX.out.e8 HHY.out.e8 wx
    rwa [decide_eq_true (show (x.ek = y.ek ∧ x.eid = y.eid ∧ x.eg = y.eg ∧ ((x.em.toNat : Int) = (y.em.toNat : Int) ∧ (x.el.toNat : Int) = (y.el.toNat : Int) ∧ x.ef = y.ef)) from c_E)] at e)
  have t_dv : (x.dv == y.dv) = true := by simp only [beq_iff_eq]; exact c_dv
  have t_rq : (x.rq == y.rq) = true := by simp only [beq_iff_eq]; exact c_rq
  have t_id : (x.id == y.id) = false := by simp only [beq_eq_false_iff_ne]; exact c_id
  obtain ⟨xc, hxc⟩ : ∃ c, c = cmc x := ⟨_, rfl⟩
  obtain ⟨yc, hyc⟩ : ∃ c, c = cmc y := ⟨_, rfl⟩
  obtain ⟨xe, hxe⟩ : ∃ c, c = cmE x := ⟨_, rfl⟩
  obtain ⟨xp, hxp⟩ : ∃ c, c = cmP x := ⟨_, rfl⟩
  obtain ⟨ye, hye⟩ : ∃ c, c = cmE y := ⟨_, rfl⟩
  obtain ⟨yp, hyp⟩ : ∃ c, c = cmP y := ⟨_, rfl⟩
  rw [← hxc, ← hyc] at HB HB0 HB1 RP RP' RE RE' aq0 aq30 aq31 aq32 aq33 aq34 aq61 aq62 bq0 bq30 bq31 bq32 bq33 bq34 bq61 bq62 ⊢
  rw [← hxc] at HP62
  rw [← hyc] at HQ62
  rw [← hxe] at HEL HEQE RE
  rw [← hye] at HEL' HEQE RE'
  rw [← hxp] at HPL RP
  rw [← hyp] at HPL' RP'
  clear hxc hyc hxe hxp hye hyp a0 a30 a31 a32 a33 a34 a61 a62 b0 b30 b31 b32 b33 b34 b61 b62 B0 B1 hb h h' hHT hm c_kd c_E c_dv c_rq c_id
  go_enter Tryz.func6, Tryz.ntmps6
  dsimp only [List.append]
  go_wp2_with (first
    | (refine wpList_load_g (by rfl) 38 (.tmp 11) rfl w.heap.size 1 rfl xe _ RE hue rfl (by rw [HEL.out]; exact info_edit) ?_; simp only [pq4])
    | (refine wpList_load_g (by rfl) 38 (.tmp 13) rfl (w.heap.size + 1) 1 rfl ye _ RE' hue rfl (by rw [HEL'.out]; exact info_edit) ?_; simp only [pq4])
    | (refine wpList_exec (by rfl) (.bool true) (exec_eql 38 38 (.tmp 12) (.tmp 14) rfl xe.toArray ye.toArray rfl rfl (by kernel_rfl) true (HEQE.out _)) ?_; simp only [pq4])
    | fail)
  go_ret
  exact ⟨rfl, HB.out⟩
theorem rcsame_f (x y : Cm) (w : World) (h : okCm w x) (h' : okCm w y) (hm : x.n ≤ 65536) (c_kd : x.kd = y.kd) (c_E : ee x y) (c_dv : x.dv = y.dv) (c_rq : x.rq = y.rq) (c_id : x.id = y.id) (c_bs : ¬ (x.bs = y.bs)) :
    Calls Tryz.prog 6 #[.agg (cmc x).toArray, .agg (cmc y).toArray] w fun e w' => e = .returned (.bool (decide (csm x y))) ∧ Below w.heap.size w w' := by
  have hue := Tryz.underlying38
  have hup := Tryz.underlying36
  have HEL := hid (cmE_len h.e8)
  have HPL := hid (cmP_len h.p8)
  have HEL' := hid (cmE_len h'.e8)
  have HPL' := hid (cmP_len h'.p8)
  have HHX := hid h
  have HHY := hid h'
  have B0 := (Blk.new w (cmc x) 41).alloc (.cells (cmc y).toArray 41)
  have B1 := Blk.new (w.alloc (.cells (cmc x).toArray 41)) (cmc y) 41
  rw [show (w.alloc (.cells (cmc x).toArray 41)).heap.size = w.heap.size + 1 by simp] at B1
  have hb : Below w.heap.size w ((w.alloc (.cells (cmc x).toArray 41)).alloc (.cells (cmc y).toArray 41)) := (below_a1C _ _).alloc (below_a1C _ _).size _
  have HB := hid hb
  have RE := B0.range 1 (cmE x) (cm_edit h.e8 h.p8)
  have RP := B0.range 35 (cmP x) (cm_patch h.e8 h.p8)
  have RE' := B1.range 1 (cmE y) (cm_edit h'.e8 h'.p8)
  have RP' := B1.range 35 (cmP y) (cm_patch h'.e8 h'.p8)
  obtain ⟨a0, a30, a31, a32, a33, a34, a61, a62⟩ := cm_at h.e8 h.p8
  obtain ⟨b0, b30, b31, b32, b33, b34, b61, b62⟩ := cm_at h'.e8 h'.p8
  have aq0 := B0.cell a0
  have aq30 := B0.cell a30
  have aq31 := B0.cell a31
  have aq32 := B0.cell a32
  have aq33 := B0.cell a33
  have aq34 := B0.cell a34
  have aq61 := B0.cell a61
  have aq62 := B0.cell a62
  have bq0 := B1.cell b0
  have bq30 := B1.cell b30
  have bq31 := B1.cell b31
  have bq32 := B1.cell b32
  have bq33 := B1.cell b33
  have bq34 := B1.cell b34
  have bq61 := B1.cell b61
  have bq62 := B1.cell b62
  have HB0 := hid B0
  have HB1 := hid B1
  have HP62 := hid a62
  have HQ62 := hid b62
  have hHT : decide (csm x y) = false := decide_eq_false (fun e => c_bs (e.2.2.2.2.2.1))
  rw [hHT]
  have t_kd : (x.kd == y.kd) = true := by simp only [beq_iff_eq]; exact c_kd
  have HEQE : Hid (∀ wx : World, (Op.equalIn 10000 38 (.agg (cmE x).toArray) (.agg (cmE y).toArray)).run Tryz.prog wx = .ok true wx) := Lib.hid (fun wx => by
    have e := eq_editC 9995 x.ek x.eid x.eg (x.em.toNat : Int) (x.el.toNat : Int) y.ek y.eid y.eg (y.em.toNat : Int) (y.el.toNat : Int) x.ef y.ef HHX.out.e8 HHY.out.e8 wx
    rwa [decide_eq_true (show (x.ek = y.ek ∧ x.eid = y.eid ∧ x.eg = y.eg ∧ ((x.em.toNat : Int) = (y.em.toNat : Int) ∧ (x.el.toNat : Int) = (y.el.toNat : Int) ∧ x.ef = y.ef)) from c_E)] at e)
  have t_dv : (x.dv == y.dv) = true := by simp only [beq_iff_eq]; exact c_dv
  have t_rq : (x.rq == y.rq) = true := by simp only [beq_iff_eq]; exact c_rq
  have t_id : (x.id == y.id) = true := by simp only [beq_iff_eq]; exact c_id
  have t_bs : (x.bs == y.bs) = false := by simp only [beq_eq_false_iff_ne]; exact c_bs
  obtain ⟨xc, hxc⟩ : ∃ c, c = cmc x := ⟨_, rfl⟩
  obtain ⟨yc, hyc⟩ : ∃ c, c = cmc y := ⟨_, rfl⟩
  obtain ⟨xe, hxe⟩ : ∃ c, c = cmE x := ⟨_, rfl⟩
  obtain ⟨xp, hxp⟩ : ∃ c, c = cmP x := ⟨_, rfl⟩
  obtain ⟨ye, hye⟩ : ∃ c, c = cmE y := ⟨_, rfl⟩
  obtain ⟨yp, hyp⟩ : ∃ c, c = cmP y := ⟨_, rfl⟩
  rw [← hxc, ← hyc] at HB HB0 HB1 RP RP' RE RE' aq0 aq30 aq31 aq32 aq33 aq34 aq61 aq62 bq0 bq30 bq31 bq32 bq33 bq34 bq61 bq62 ⊢
  rw [← hxc] at HP62
  rw [← hyc] at HQ62
  rw [← hxe] at HEL HEQE RE
  rw [← hye] at HEL' HEQE RE'
  rw [← hxp] at HPL RP
  rw [← hyp] at HPL' RP'
  clear hxc hyc hxe hxp hye hyp a0 a30 a31 a32 a33 a34 a61 a62 b0 b30 b31 b32 b33 b34 b61 b62 B0 B1 hb h h' hHT hm c_kd c_E c_dv c_rq c_id c_bs
  go_enter Tryz.func6, Tryz.ntmps6
  dsimp only [List.append]
  go_wp2_with (first
    | (refine wpList_load_g (by rfl) 38 (.tmp 11) rfl w.heap.size 1 rfl xe _ RE hue rfl (by rw [HEL.out]; exact info_edit) ?_; simp only [pq4])
    | (refine wpList_load_g (by rfl) 38 (.tmp 13) rfl (w.heap.size + 1) 1 rfl ye _ RE' hue rfl (by rw [HEL'.out]; exact info_edit) ?_; simp only [pq4])
    | (refine wpList_exec (by rfl) (.bool true) (exec_eql 38 38 (.tmp 12) (.tmp 14) rfl xe.toArray ye.toArray rfl rfl (by kernel_rfl) true (HEQE.out _)) ?_; simp only [pq4])
    | fail)
  go_ret
  exact ⟨rfl, HB.out⟩
theorem rcsame_g (x y : Cm) (w : World) (h : okCm w x) (h' : okCm w y) (hm : x.n ≤ 65536) (c_kd : x.kd = y.kd) (c_E : ee x y) (c_dv : x.dv = y.dv) (c_rq : x.rq = y.rq) (c_id : x.id = y.id) (c_bs : x.bs = y.bs) (c_kp : ¬ (x.kp = y.kp)) :
    Calls Tryz.prog 6 #[.agg (cmc x).toArray, .agg (cmc y).toArray] w fun e w' => e = .returned (.bool (decide (csm x y))) ∧ Below w.heap.size w w' := by
  have hue := Tryz.underlying38
  have hup := Tryz.underlying36
  have HEL := hid (cmE_len h.e8)
  have HPL := hid (cmP_len h.p8)
  have HEL' := hid (cmE_len h'.e8)
  have HPL' := hid (cmP_len h'.p8)
  have HHX := hid h
  have HHY := hid h'
  have B0 := (Blk.new w (cmc x) 41).alloc (.cells (cmc y).toArray 41)
  have B1 := Blk.new (w.alloc (.cells (cmc x).toArray 41)) (cmc y) 41
  rw [show (w.alloc (.cells (cmc x).toArray 41)).heap.size = w.heap.size + 1 by simp] at B1
  have hb : Below w.heap.size w ((w.alloc (.cells (cmc x).toArray 41)).alloc (.cells (cmc y).toArray 41)) := (below_a1C _ _).alloc (below_a1C _ _).size _
  have HB := hid hb
  have RE := B0.range 1 (cmE x) (cm_edit h.e8 h.p8)
  have RP := B0.range 35 (cmP x) (cm_patch h.e8 h.p8)
  have RE' := B1.range 1 (cmE y) (cm_edit h'.e8 h'.p8)
  have RP' := B1.range 35 (cmP y) (cm_patch h'.e8 h'.p8)
  obtain ⟨a0, a30, a31, a32, a33, a34, a61, a62⟩ := cm_at h.e8 h.p8
  obtain ⟨b0, b30, b31, b32, b33, b34, b61, b62⟩ := cm_at h'.e8 h'.p8
  have aq0 := B0.cell a0
  have aq30 := B0.cell a30
  have aq31 := B0.cell a31
  have aq32 := B0.cell a32
  have aq33 := B0.cell a33
  have aq34 := B0.cell a34
  have aq61 := B0.cell a61
  have aq62 := B0.cell a62
  have bq0 := B1.cell b0
  have bq30 := B1.cell b30
  have bq31 := B1.cell b31
  have bq32 := B1.cell b32
  have bq33 := B1.cell b33
  have bq34 := B1.cell b34
  have bq61 := B1.cell b61
  have bq62 := B1.cell b62
  have HB0 := hid B0
  have HB1 := hid B1
  have HP62 := hid a62
  have HQ62 := hid b62
  have hHT : decide (csm x y) = false := decide_eq_false (fun e => c_kp (e.2.2.2.2.2.2.1))
  rw [hHT]
  have t_kd : (x.kd == y.kd) = true := by simp only [beq_iff_eq]; exact c_kd
  have HEQE : Hid (∀ wx : World, (Op.equalIn 10000 38 (.agg (cmE x).toArray) (.agg (cmE y).toArray)).run Tryz.prog wx = .ok true wx) := Lib.hid (fun wx => by
    have e := eq_editC 9995 x.ek x.eid x.eg (x.em.toNat : Int) (x.el.toNat : Int) y.ek y.eid y.eg (y.em.toNat : Int) (y.el.toNat : Int) x.ef y.ef HHX.out.e8 HHY.out.e8 wx
    rwa [decide_eq_true (show (x.ek = y.ek ∧ x.eid = y.eid ∧ x.eg = y.eg ∧ ((x.em.toNat : Int) = (y.em.toNat : Int) ∧ (x.el.toNat : Int) = (y.el.toNat : Int) ∧ x.ef = y.ef)) from c_E)] at e)
  have t_dv : (x.dv == y.dv) = true := by simp only [beq_iff_eq]; exact c_dv
  have t_rq : (x.rq == y.rq) = true := by simp only [beq_iff_eq]; exact c_rq
  have t_id : (x.id == y.id) = true := by simp only [beq_iff_eq]; exact c_id
  have t_bs : (x.bs == y.bs) = true := by simp only [beq_iff_eq]; exact c_bs
  have t_kp : (x.kp == y.kp) = false := by simp only [beq_eq_false_iff_ne]; exact c_kp
  obtain ⟨xc, hxc⟩ : ∃ c, c = cmc x := ⟨_, rfl⟩
  obtain ⟨yc, hyc⟩ : ∃ c, c = cmc y := ⟨_, rfl⟩
  obtain ⟨xe, hxe⟩ : ∃ c, c = cmE x := ⟨_, rfl⟩
  obtain ⟨xp, hxp⟩ : ∃ c, c = cmP x := ⟨_, rfl⟩
  obtain ⟨ye, hye⟩ : ∃ c, c = cmE y := ⟨_, rfl⟩
  obtain ⟨yp, hyp⟩ : ∃ c, c = cmP y := ⟨_, rfl⟩
  rw [← hxc, ← hyc] at HB HB0 HB1 RP RP' RE RE' aq0 aq30 aq31 aq32 aq33 aq34 aq61 aq62 bq0 bq30 bq31 bq32 bq33 bq34 bq61 bq62 ⊢
  rw [← hxc] at HP62
  rw [← hyc] at HQ62
  rw [← hxe] at HEL HEQE RE
  rw [← hye] at HEL' HEQE RE'
  rw [← hxp] at HPL RP
  rw [← hyp] at HPL' RP'
  clear hxc hyc hxe hxp hye hyp a0 a30 a31 a32 a33 a34 a61 a62 b0 b30 b31 b32 b33 b34 b61 b62 B0 B1 hb h h' hHT hm c_kd c_E c_dv c_rq c_id c_bs c_kp
  go_enter Tryz.func6, Tryz.ntmps6
  dsimp only [List.append]
  go_wp2_with (first
    | (refine wpList_load_g (by rfl) 38 (.tmp 11) rfl w.heap.size 1 rfl xe _ RE hue rfl (by rw [HEL.out]; exact info_edit) ?_; simp only [pq4])
    | (refine wpList_load_g (by rfl) 38 (.tmp 13) rfl (w.heap.size + 1) 1 rfl ye _ RE' hue rfl (by rw [HEL'.out]; exact info_edit) ?_; simp only [pq4])
    | (refine wpList_exec (by rfl) (.bool true) (exec_eql 38 38 (.tmp 12) (.tmp 14) rfl xe.toArray ye.toArray rfl rfl (by kernel_rfl) true (HEQE.out _)) ?_; simp only [pq4])
    | fail)
  go_ret
  exact ⟨rfl, HB.out⟩
theorem rcsame_h (x y : Cm) (w : World) (h : okCm w x) (h' : okCm w y) (hm : x.n ≤ 65536) (c_kd : x.kd = y.kd) (c_E : ee x y) (c_dv : x.dv = y.dv) (c_rq : x.rq = y.rq) (c_id : x.id = y.id) (c_bs : x.bs = y.bs) (c_kp : x.kp = y.kp) (c_P : ¬ (pp2 x y)) :
    Calls Tryz.prog 6 #[.agg (cmc x).toArray, .agg (cmc y).toArray] w fun e w' => e = .returned (.bool (decide (csm x y))) ∧ Below w.heap.size w w' := by
  have hue := Tryz.underlying38
  have hup := Tryz.underlying36
  have HEL := hid (cmE_len h.e8)
  have HPL := hid (cmP_len h.p8)
  have HEL' := hid (cmE_len h'.e8)
  have HPL' := hid (cmP_len h'.p8)
  have HHX := hid h
  have HHY := hid h'
  have B0 := (Blk.new w (cmc x) 41).alloc (.cells (cmc y).toArray 41)
  have B1 := Blk.new (w.alloc (.cells (cmc x).toArray 41)) (cmc y) 41
  rw [show (w.alloc (.cells (cmc x).toArray 41)).heap.size = w.heap.size + 1 by simp] at B1
  have hb : Below w.heap.size w ((w.alloc (.cells (cmc x).toArray 41)).alloc (.cells (cmc y).toArray 41)) := (below_a1C _ _).alloc (below_a1C _ _).size _
  have HB := hid hb
  have RE := B0.range 1 (cmE x) (cm_edit h.e8 h.p8)
  have RP := B0.range 35 (cmP x) (cm_patch h.e8 h.p8)
  have RE' := B1.range 1 (cmE y) (cm_edit h'.e8 h'.p8)
  have RP' := B1.range 35 (cmP y) (cm_patch h'.e8 h'.p8)
  obtain ⟨a0, a30, a31, a32, a33, a34, a61, a62⟩ := cm_at h.e8 h.p8
  obtain ⟨b0, b30, b31, b32, b33, b34, b61, b62⟩ := cm_at h'.e8 h'.p8
  have aq0 := B0.cell a0
  have aq30 := B0.cell a30
  have aq31 := B0.cell a31
  have aq32 := B0.cell a32
  have aq33 := B0.cell a33
  have aq34 := B0.cell a34
  have aq61 := B0.cell a61
  have aq62 := B0.cell a62
  have bq0 := B1.cell b0
  have bq30 := B1.cell b30
  have bq31 := B1.cell b31
  have bq32 := B1.cell b32
  have bq33 := B1.cell b33
  have bq34 := B1.cell b34
  have bq61 := B1.cell b61
  have bq62 := B1.cell b62
  have HB0 := hid B0
  have HB1 := hid B1
  have HP62 := hid a62
  have HQ62 := hid b62
  have hHT : decide (csm x y) = false := decide_eq_false (fun e => c_P (e.2.2.2.2.2.2.2.1))
  rw [hHT]
  have t_kd : (x.kd == y.kd) = true := by simp only [beq_iff_eq]; exact c_kd
  have HEQE : Hid (∀ wx : World, (Op.equalIn 10000 38 (.agg (cmE x).toArray) (.agg (cmE y).toArray)).run Tryz.prog wx = .ok true wx) := Lib.hid (fun wx => by
    have e := eq_editC 9995 x.ek x.eid x.eg (x.em.toNat : Int) (x.el.toNat : Int) y.ek y.eid y.eg (y.em.toNat : Int) (y.el.toNat : Int) x.ef y.ef HHX.out.e8 HHY.out.e8 wx
    rwa [decide_eq_true (show (x.ek = y.ek ∧ x.eid = y.eid ∧ x.eg = y.eg ∧ ((x.em.toNat : Int) = (y.em.toNat : Int) ∧ (x.el.toNat : Int) = (y.el.toNat : Int) ∧ x.ef = y.ef)) from c_E)] at e)
  have t_dv : (x.dv == y.dv) = true := by simp only [beq_iff_eq]; exact c_dv
  have t_rq : (x.rq == y.rq) = true := by simp only [beq_iff_eq]; exact c_rq
  have t_id : (x.id == y.id) = true := by simp only [beq_iff_eq]; exact c_id
  have t_bs : (x.bs == y.bs) = true := by simp only [beq_iff_eq]; exact c_bs
  have t_kp : (x.kp == y.kp) = true := by simp only [beq_iff_eq]; exact c_kp
  have HEQP : Hid (∀ wx : World, (Op.equalIn 10000 36 (.agg (cmP x).toArray) (.agg (cmP y).toArray)).run Tryz.prog wx = .ok false wx) := Lib.hid (fun wx => by
    have e := eq_patch 9996 (x.pm.toNat : Int) (x.pl.toNat : Int) (y.pm.toNat : Int) (y.pl.toNat : Int) x.pf y.pf HHX.out.p8 HHY.out.p8 wx
    rwa [decide_eq_false (show ¬ ((x.pm.toNat : Int) = (y.pm.toNat : Int) ∧ (x.pl.toNat : Int) = (y.pl.toNat : Int) ∧ x.pf = y.pf) from c_P)] at e)
  obtain ⟨xc, hxc⟩ : ∃ c, c = cmc x := ⟨_, rfl⟩
  obtain ⟨yc, hyc⟩ : ∃ c, c = cmc y := ⟨_, rfl⟩
  obtain ⟨xe, hxe⟩ : ∃ c, c = cmE x := ⟨_, rfl⟩
  obtain ⟨xp, hxp⟩ : ∃ c, c = cmP x := ⟨_, rfl⟩
  obtain ⟨ye, hye⟩ : ∃ c, c = cmE y := ⟨_, rfl⟩
  obtain ⟨yp, hyp⟩ : ∃ c, c = cmP y := ⟨_, rfl⟩
  rw [← hxc, ← hyc] at HB HB0 HB1 RP RP' RE RE' aq0 aq30 aq31 aq32 aq33 aq34 aq61 aq62 bq0 bq30 bq31 bq32 bq33 bq34 bq61 bq62 ⊢
  rw [← hxc] at HP62
  rw [← hyc] at HQ62
  rw [← hxe] at HEL HEQE RE
  rw [← hye] at HEL' HEQE RE'
  rw [← hxp] at HPL HEQP RP
  rw [← hyp] at HPL' HEQP RP'
  clear hxc hyc hxe hxp hye hyp a0 a30 a31 a32 a33 a34 a61 a62 b0 b30 b31 b32 b33 b34 b61 b62 B0 B1 hb h h' hHT hm c_kd c_E c_dv c_rq c_id c_bs c_kp c_P
  go_enter Tryz.func6, Tryz.ntmps6
  dsimp only [List.append]
  go_wp2_with (first
    | (refine wpList_load_g (by rfl) 38 (.tmp 11) rfl w.heap.size 1 rfl xe _ RE hue rfl (by rw [HEL.out]; exact info_edit) ?_; simp only [pq4])
    | (refine wpList_load_g (by rfl) 38 (.tmp 13) rfl (w.heap.size + 1) 1 rfl ye _ RE' hue rfl (by rw [HEL'.out]; exact info_edit) ?_; simp only [pq4])
    | (refine wpList_exec (by rfl) (.bool true) (exec_eql 38 38 (.tmp 12) (.tmp 14) rfl xe.toArray ye.toArray rfl rfl (by kernel_rfl) true (HEQE.out _)) ?_; simp only [pq4])
    | (refine wpList_load_g (by rfl) 36 (.tmp 53) rfl w.heap.size 35 rfl xp _ RP hup rfl (by rw [HPL.out]; exact info_patch) ?_; simp only [pq4])
    | (refine wpList_load_g (by rfl) 36 (.tmp 55) rfl (w.heap.size + 1) 35 rfl yp _ RP' hup rfl (by rw [HPL'.out]; exact info_patch) ?_; simp only [pq4])
    | (refine wpList_exec (by rfl) (.bool false) (exec_eql 36 36 (.tmp 54) (.tmp 56) rfl xp.toArray yp.toArray rfl rfl (by kernel_rfl) false (HEQP.out _)) ?_; simp only [pq4])
    | fail)
  go_ret
  exact ⟨rfl, HB.out⟩
theorem rcsame_i (x y : Cm) (w : World) (h : okCm w x) (h' : okCm w y) (hm : x.n ≤ 65536) (c_kd : x.kd = y.kd) (c_E : ee x y) (c_dv : x.dv = y.dv) (c_rq : x.rq = y.rq) (c_id : x.id = y.id) (c_bs : x.bs = y.bs) (c_kp : x.kp = y.kp) (c_P : pp2 x y) (c_f : ¬ (x.f = y.f)) :
    Calls Tryz.prog 6 #[.agg (cmc x).toArray, .agg (cmc y).toArray] w fun e w' => e = .returned (.bool (decide (csm x y))) ∧ Below w.heap.size w w' := by
  have hue := Tryz.underlying38
  have hup := Tryz.underlying36
  have HEL := hid (cmE_len h.e8)
  have HPL := hid (cmP_len h.p8)
  have HEL' := hid (cmE_len h'.e8)
  have HPL' := hid (cmP_len h'.p8)
  have HHX := hid h
  have HHY := hid h'
  have B0 := (Blk.new w (cmc x) 41).alloc (.cells (cmc y).toArray 41)
  have B1 := Blk.new (w.alloc (.cells (cmc x).toArray 41)) (cmc y) 41
  rw [show (w.alloc (.cells (cmc x).toArray 41)).heap.size = w.heap.size + 1 by simp] at B1
  have hb : Below w.heap.size w ((w.alloc (.cells (cmc x).toArray 41)).alloc (.cells (cmc y).toArray 41)) := (below_a1C _ _).alloc (below_a1C _ _).size _
  have HB := hid hb
  have RE := B0.range 1 (cmE x) (cm_edit h.e8 h.p8)
  have RP := B0.range 35 (cmP x) (cm_patch h.e8 h.p8)
  have RE' := B1.range 1 (cmE y) (cm_edit h'.e8 h'.p8)
  have RP' := B1.range 35 (cmP y) (cm_patch h'.e8 h'.p8)
  obtain ⟨a0, a30, a31, a32, a33, a34, a61, a62⟩ := cm_at h.e8 h.p8
  obtain ⟨b0, b30, b31, b32, b33, b34, b61, b62⟩ := cm_at h'.e8 h'.p8
  have aq0 := B0.cell a0
  have aq30 := B0.cell a30
  have aq31 := B0.cell a31
  have aq32 := B0.cell a32
  have aq33 := B0.cell a33
  have aq34 := B0.cell a34
  have aq61 := B0.cell a61
  have aq62 := B0.cell a62
  have bq0 := B1.cell b0
  have bq30 := B1.cell b30
  have bq31 := B1.cell b31
  have bq32 := B1.cell b32
  have bq33 := B1.cell b33
  have bq34 := B1.cell b34
  have bq61 := B1.cell b61
  have bq62 := B1.cell b62
  have HB0 := hid B0
  have HB1 := hid B1
  have HP62 := hid a62
  have HQ62 := hid b62
  have hHT : decide (csm x y) = false := decide_eq_false (fun e => c_f (e.2.2.2.2.2.2.2.2.1))
  rw [hHT]
  have t_kd : (x.kd == y.kd) = true := by simp only [beq_iff_eq]; exact c_kd
  have HEQE : Hid (∀ wx : World, (Op.equalIn 10000 38 (.agg (cmE x).toArray) (.agg (cmE y).toArray)).run Tryz.prog wx = .ok true wx) := Lib.hid (fun wx => by
    have e := eq_editC 9995 x.ek x.eid x.eg (x.em.toNat : Int) (x.el.toNat : Int) y.ek y.eid y.eg (y.em.toNat : Int) (y.el.toNat : Int) x.ef y.ef HHX.out.e8 HHY.out.e8 wx
    rwa [decide_eq_true (show (x.ek = y.ek ∧ x.eid = y.eid ∧ x.eg = y.eg ∧ ((x.em.toNat : Int) = (y.em.toNat : Int) ∧ (x.el.toNat : Int) = (y.el.toNat : Int) ∧ x.ef = y.ef)) from c_E)] at e)
  have t_dv : (x.dv == y.dv) = true := by simp only [beq_iff_eq]; exact c_dv
  have t_rq : (x.rq == y.rq) = true := by simp only [beq_iff_eq]; exact c_rq
  have t_id : (x.id == y.id) = true := by simp only [beq_iff_eq]; exact c_id
  have t_bs : (x.bs == y.bs) = true := by simp only [beq_iff_eq]; exact c_bs
  have t_kp : (x.kp == y.kp) = true := by simp only [beq_iff_eq]; exact c_kp
  have HEQP : Hid (∀ wx : World, (Op.equalIn 10000 36 (.agg (cmP x).toArray) (.agg (cmP y).toArray)).run Tryz.prog wx = .ok true wx) := Lib.hid (fun wx => by
    have e := eq_patch 9996 (x.pm.toNat : Int) (x.pl.toNat : Int) (y.pm.toNat : Int) (y.pl.toNat : Int) x.pf y.pf HHX.out.p8 HHY.out.p8 wx
    rwa [decide_eq_true (show ((x.pm.toNat : Int) = (y.pm.toNat : Int) ∧ (x.pl.toNat : Int) = (y.pl.toNat : Int) ∧ x.pf = y.pf) from c_P)] at e)
  have HFC : Hid (∀ wx : World, Below w.heap.size w wx → Calls Tryz.prog 15 #[.slice x.A x.n x.c, .slice y.A y.n y.c] wx fun e w' => e = .returned (.bool false) ∧ Below wx.heap.size wx w') := Lib.hid (fun wx hb => by
    have e := rsame_any x.A x.n x.c x.f y.A y.n y.c y.f wx HHX.out.len HHY.out.len ((HHX.out.see.below hb).more hb.size) ((HHY.out.see.below hb).more hb.size) hm
    rwa [decide_eq_false c_f] at e)
  obtain ⟨xc, hxc⟩ : ∃ c, c = cmc x := ⟨_, rfl⟩
  obtain ⟨yc, hyc⟩ : ∃ c, c = cmc y := ⟨_, rfl⟩
  obtain ⟨xe, hxe⟩ : ∃ c, c = cmE x := ⟨_, rfl⟩
  obtain ⟨xp, hxp⟩ : ∃ c, c = cmP x := ⟨_, rfl⟩
  obtain ⟨ye, hye⟩ : ∃ c, c = cmE y := ⟨_, rfl⟩
  obtain ⟨yp, hyp⟩ : ∃ c, c = cmP y := ⟨_, rfl⟩
  rw [← hxc, ← hyc] at HB HB0 HB1 RP RP' RE RE' aq0 aq30 aq31 aq32 aq33 aq34 aq61 aq62 bq0 bq30 bq31 bq32 bq33 bq34 bq61 bq62 ⊢
  rw [← hxc] at HP62
  rw [← hyc] at HQ62
  rw [← hxe] at HEL HEQE RE
  rw [← hye] at HEL' HEQE RE'
  rw [← hxp] at HPL HEQP RP
  rw [← hyp] at HPL' HEQP RP'
  clear hxc hyc hxe hxp hye hyp a0 a30 a31 a32 a33 a34 a61 a62 b0 b30 b31 b32 b33 b34 b61 b62 B0 B1 hb h h' hHT hm c_kd c_E c_dv c_rq c_id c_bs c_kp c_P c_f
  go_enter Tryz.func6, Tryz.ntmps6
  dsimp only [List.append]
  go_wp2_with (first
    | (refine wpList_load_g (by rfl) 38 (.tmp 11) rfl w.heap.size 1 rfl xe _ RE hue rfl (by rw [HEL.out]; exact info_edit) ?_; simp only [pq4])
    | (refine wpList_load_g (by rfl) 38 (.tmp 13) rfl (w.heap.size + 1) 1 rfl ye _ RE' hue rfl (by rw [HEL'.out]; exact info_edit) ?_; simp only [pq4])
    | (refine wpList_exec (by rfl) (.bool true) (exec_eql 38 38 (.tmp 12) (.tmp 14) rfl xe.toArray ye.toArray rfl rfl (by kernel_rfl) true (HEQE.out _)) ?_; simp only [pq4])
    | (refine wpList_load_g (by rfl) 36 (.tmp 53) rfl w.heap.size 35 rfl xp _ RP hup rfl (by rw [HPL.out]; exact info_patch) ?_; simp only [pq4])
    | (refine wpList_load_g (by rfl) 36 (.tmp 55) rfl (w.heap.size + 1) 35 rfl yp _ RP' hup rfl (by rw [HPL'.out]; exact info_patch) ?_; simp only [pq4])
    | (refine wpList_exec (by rfl) (.bool true) (exec_eql 36 36 (.tmp 54) (.tmp 56) rfl xp.toArray yp.toArray rfl rfl (by kernel_rfl) true (HEQP.out _)) ?_; simp only [pq4])
    | fail)
  refine (HFC.out _ HB.out).mono ?_
  rintro e w3 ⟨rfl, hb3⟩
  have HBE := hid (HB.out.trans (hb3.mono HB.out.size))
  have r62 := (HB0.out.later hb3).cell HP62.out
  have s62 := (HB1.out.later hb3).cell HQ62.out
  clear hb3 aq0 aq30 aq31 aq32 aq33 aq34 aq61 aq62 bq0 bq30 bq31 bq32 bq33 bq34 bq61 bq62 RP RP' RE RE'
  go_wp2_with fail
  go_ret
  exact ⟨rfl, HBE.out⟩
theorem rcsame_j (x y : Cm) (w : World) (h : okCm w x) (h' : okCm w y) (hm : x.n ≤ 65536) (c_kd : x.kd = y.kd) (c_E : ee x y) (c_dv : x.dv = y.dv) (c_rq : x.rq = y.rq) (c_id : x.id = y.id) (c_bs : x.bs = y.bs) (c_kp : x.kp = y.kp) (c_P : pp2 x y) (c_f : x.f = y.f) (c_ms : ¬ ((x.ms.toNat : Int) = (y.ms.toNat : Int))) :
    Calls Tryz.prog 6 #[.agg (cmc x).toArray, .agg (cmc y).toArray] w fun e w' => e = .returned (.bool (decide (csm x y))) ∧ Below w.heap.size w w' := by
  have hue := Tryz.underlying38
  have hup := Tryz.underlying36
  have HEL := hid (cmE_len h.e8)
  have HPL := hid (cmP_len h.p8)
  have HEL' := hid (cmE_len h'.e8)
  have HPL' := hid (cmP_len h'.p8)
  have HHX := hid h
  have HHY := hid h'
  have B0 := (Blk.new w (cmc x) 41).alloc (.cells (cmc y).toArray 41)
  have B1 := Blk.new (w.alloc (.cells (cmc x).toArray 41)) (cmc y) 41
  rw [show (w.alloc (.cells (cmc x).toArray 41)).heap.size = w.heap.size + 1 by simp] at B1
  have hb : Below w.heap.size w ((w.alloc (.cells (cmc x).toArray 41)).alloc (.cells (cmc y).toArray 41)) := (below_a1C _ _).alloc (below_a1C _ _).size _
  have HB := hid hb
  have RE := B0.range 1 (cmE x) (cm_edit h.e8 h.p8)
  have RP := B0.range 35 (cmP x) (cm_patch h.e8 h.p8)
  have RE' := B1.range 1 (cmE y) (cm_edit h'.e8 h'.p8)
  have RP' := B1.range 35 (cmP y) (cm_patch h'.e8 h'.p8)
  obtain ⟨a0, a30, a31, a32, a33, a34, a61, a62⟩ := cm_at h.e8 h.p8
  obtain ⟨b0, b30, b31, b32, b33, b34, b61, b62⟩ := cm_at h'.e8 h'.p8
  have aq0 := B0.cell a0
  have aq30 := B0.cell a30
  have aq31 := B0.cell a31
  have aq32 := B0.cell a32
  have aq33 := B0.cell a33
  have aq34 := B0.cell a34
  have aq61 := B0.cell a61
  have aq62 := B0.cell a62
  have bq0 := B1.cell b0
  have bq30 := B1.cell b30
  have bq31 := B1.cell b31
  have bq32 := B1.cell b32
  have bq33 := B1.cell b33
  have bq34 := B1.cell b34
  have bq61 := B1.cell b61
  have bq62 := B1.cell b62
  have HB0 := hid B0
  have HB1 := hid B1
  have HP62 := hid a62
  have HQ62 := hid b62
  have hHT : decide (csm x y) = false := decide_eq_false (fun e => c_ms (e.2.2.2.2.2.2.2.2.2))
  rw [hHT]
  have t_kd : (x.kd == y.kd) = true := by simp only [beq_iff_eq]; exact c_kd
  have HEQE : Hid (∀ wx : World, (Op.equalIn 10000 38 (.agg (cmE x).toArray) (.agg (cmE y).toArray)).run Tryz.prog wx = .ok true wx) := Lib.hid (fun wx => by
    have e := eq_editC 9995 x.ek x.eid x.eg (x.em.toNat : Int) (x.el.toNat : Int) y.ek y.eid y.eg (y.em.toNat : Int) (y.el.toNat : Int) x.ef y.ef HHX.out.e8 HHY.out.e8 wx
    rwa [decide_eq_true (show (x.ek = y.ek ∧ x.eid = y.eid ∧ x.eg = y.eg ∧ ((x.em.toNat : Int) = (y.em.toNat : Int) ∧ (x.el.toNat : Int) = (y.el.toNat : Int) ∧ x.ef = y.ef)) from c_E)] at e)
  have t_dv : (x.dv == y.dv) = true := by simp only [beq_iff_eq]; exact c_dv
  have t_rq : (x.rq == y.rq) = true := by simp only [beq_iff_eq]; exact c_rq
  have t_id : (x.id == y.id) = true := by simp only [beq_iff_eq]; exact c_id
  have t_bs : (x.bs == y.bs) = true := by simp only [beq_iff_eq]; exact c_bs
  have t_kp : (x.kp == y.kp) = true := by simp only [beq_iff_eq]; exact c_kp
  have HEQP : Hid (∀ wx : World, (Op.equalIn 10000 36 (.agg (cmP x).toArray) (.agg (cmP y).toArray)).run Tryz.prog wx = .ok true wx) := Lib.hid (fun wx => by
    have e := eq_patch 9996 (x.pm.toNat : Int) (x.pl.toNat : Int) (y.pm.toNat : Int) (y.pl.toNat : Int) x.pf y.pf HHX.out.p8 HHY.out.p8 wx
    rwa [decide_eq_true (show ((x.pm.toNat : Int) = (y.pm.toNat : Int) ∧ (x.pl.toNat : Int) = (y.pl.toNat : Int) ∧ x.pf = y.pf) from c_P)] at e)
  have HFC : Hid (∀ wx : World, Below w.heap.size w wx → Calls Tryz.prog 15 #[.slice x.A x.n x.c, .slice y.A y.n y.c] wx fun e w' => e = .returned (.bool true) ∧ Below wx.heap.size wx w') := Lib.hid (fun wx hb => by
    have e := rsame_any x.A x.n x.c x.f y.A y.n y.c y.f wx HHX.out.len HHY.out.len ((HHX.out.see.below hb).more hb.size) ((HHY.out.see.below hb).more hb.size) hm
    rwa [decide_eq_true c_f] at e)
  have t_ms : ((x.ms.toNat : Int) == (y.ms.toNat : Int)) = false := by simp only [beq_eq_false_iff_ne]; exact c_ms
  obtain ⟨xc, hxc⟩ : ∃ c, c = cmc x := ⟨_, rfl⟩
  obtain ⟨yc, hyc⟩ : ∃ c, c = cmc y := ⟨_, rfl⟩
  obtain ⟨xe, hxe⟩ : ∃ c, c = cmE x := ⟨_, rfl⟩
  obtain ⟨xp, hxp⟩ : ∃ c, c = cmP x := ⟨_, rfl⟩
  obtain ⟨ye, hye⟩ : ∃ c, c = cmE y := ⟨_, rfl⟩
  obtain ⟨yp, hyp⟩ : ∃ c, c = cmP y := ⟨_, rfl⟩
  rw [← hxc, ← hyc] at HB HB0 HB1 RP RP' RE RE' aq0 aq30 aq31 aq32 aq33 aq34 aq61 aq62 bq0 bq30 bq31 bq32 bq33 bq34 bq61 bq62 ⊢
  rw [← hxc] at HP62
  rw [← hyc] at HQ62
  rw [← hxe] at HEL HEQE RE
  rw [← hye] at HEL' HEQE RE'
  rw [← hxp] at HPL HEQP RP
  rw [← hyp] at HPL' HEQP RP'
  clear hxc hyc hxe hxp hye hyp a0 a30 a31 a32 a33 a34 a61 a62 b0 b30 b31 b32 b33 b34 b61 b62 B0 B1 hb h h' hHT hm c_kd c_E c_dv c_rq c_id c_bs c_kp c_P c_f c_ms
  go_enter Tryz.func6, Tryz.ntmps6
  dsimp only [List.append]
  go_wp2_with (first
    | (refine wpList_load_g (by rfl) 38 (.tmp 11) rfl w.heap.size 1 rfl xe _ RE hue rfl (by rw [HEL.out]; exact info_edit) ?_; simp only [pq4])
    | (refine wpList_load_g (by rfl) 38 (.tmp 13) rfl (w.heap.size + 1) 1 rfl ye _ RE' hue rfl (by rw [HEL'.out]; exact info_edit) ?_; simp only [pq4])
    | (refine wpList_exec (by rfl) (.bool true) (exec_eql 38 38 (.tmp 12) (.tmp 14) rfl xe.toArray ye.toArray rfl rfl (by kernel_rfl) true (HEQE.out _)) ?_; simp only [pq4])
    | (refine wpList_load_g (by rfl) 36 (.tmp 53) rfl w.heap.size 35 rfl xp _ RP hup rfl (by rw [HPL.out]; exact info_patch) ?_; simp only [pq4])
    | (refine wpList_load_g (by rfl) 36 (.tmp 55) rfl (w.heap.size + 1) 35 rfl yp _ RP' hup rfl (by rw [HPL'.out]; exact info_patch) ?_; simp only [pq4])
    | (refine wpList_exec (by rfl) (.bool true) (exec_eql 36 36 (.tmp 54) (.tmp 56) rfl xp.toArray yp.toArray rfl rfl (by kernel_rfl) true (HEQP.out _)) ?_; simp only [pq4])
    | fail)
  refine (HFC.out _ HB.out).mono ?_
  rintro e w3 ⟨rfl, hb3⟩
  have HBE := hid (HB.out.trans (hb3.mono HB.out.size))
  have r62 := (HB0.out.later hb3).cell HP62.out
  have s62 := (HB1.out.later hb3).cell HQ62.out
  clear hb3 aq0 aq30 aq31 aq32 aq33 aq34 aq61 aq62 bq0 bq30 bq31 bq32 bq33 bq34 bq61 bq62 RP RP' RE RE'
  go_wp2_with fail
  go_ret
  exact ⟨rfl, HBE.out⟩
theorem rcsame_k (x y : Cm) (w : World) (h : okCm w x) (h' : okCm w y) (hm : x.n ≤ 65536) (c_kd : x.kd = y.kd) (c_E : ee x y) (c_dv : x.dv = y.dv) (c_rq : x.rq = y.rq) (c_id : x.id = y.id) (c_bs : x.bs = y.bs) (c_kp : x.kp = y.kp) (c_P : pp2 x y) (c_f : x.f = y.f) (c_ms : (x.ms.toNat : Int) = (y.ms.toNat : Int)) :
    Calls Tryz.prog 6 #[.agg (cmc x).toArray, .agg (cmc y).toArray] w fun e w' => e = .returned (.bool (decide (csm x y))) ∧ Below w.heap.size w w' := by
  have hue := Tryz.underlying38
  have hup := Tryz.underlying36
  have HEL := hid (cmE_len h.e8)
  have HPL := hid (cmP_len h.p8)
  have HEL' := hid (cmE_len h'.e8)
  have HPL' := hid (cmP_len h'.p8)
  have HHX := hid h
  have HHY := hid h'
  have B0 := (Blk.new w (cmc x) 41).alloc (.cells (cmc y).toArray 41)
  have B1 := Blk.new (w.alloc (.cells (cmc x).toArray 41)) (cmc y) 41
  rw [show (w.alloc (.cells (cmc x).toArray 41)).heap.size = w.heap.size + 1 by simp] at B1
  have hb : Below w.heap.size w ((w.alloc (.cells (cmc x).toArray 41)).alloc (.cells (cmc y).toArray 41)) := (below_a1C _ _).alloc (below_a1C _ _).size _
  have HB := hid hb
  have RE := B0.range 1 (cmE x) (cm_edit h.e8 h.p8)
  have RP := B0.range 35 (cmP x) (cm_patch h.e8 h.p8)
  have RE' := B1.range 1 (cmE y) (cm_edit h'.e8 h'.p8)
  have RP' := B1.range 35 (cmP y) (cm_patch h'.e8 h'.p8)
  obtain ⟨a0, a30, a31, a32, a33, a34, a61, a62⟩ := cm_at h.e8 h.p8
  obtain ⟨b0, b30, b31, b32, b33, b34, b61, b62⟩ := cm_at h'.e8 h'.p8
  have aq0 := B0.cell a0
  have aq30 := B0.cell a30
  have aq31 := B0.cell a31
  have aq32 := B0.cell a32
  have aq33 := B0.cell a33
  have aq34 := B0.cell a34
  have aq61 := B0.cell a61
  have aq62 := B0.cell a62
  have bq0 := B1.cell b0
  have bq30 := B1.cell b30
  have bq31 := B1.cell b31
  have bq32 := B1.cell b32
  have bq33 := B1.cell b33
  have bq34 := B1.cell b34
  have bq61 := B1.cell b61
  have bq62 := B1.cell b62
  have HB0 := hid B0
  have HB1 := hid B1
  have HP62 := hid a62
  have HQ62 := hid b62
  have hHT : decide (csm x y) = true := decide_eq_true ⟨c_kd, c_E, c_dv, c_rq, c_id, c_bs, c_kp, c_P, c_f, c_ms⟩
  rw [hHT]
  have t_kd : (x.kd == y.kd) = true := by simp only [beq_iff_eq]; exact c_kd
  have HEQE : Hid (∀ wx : World, (Op.equalIn 10000 38 (.agg (cmE x).toArray) (.agg (cmE y).toArray)).run Tryz.prog wx = .ok true wx) := Lib.hid (fun wx => by
    have e := eq_editC 9995 x.ek x.eid x.eg (x.em.toNat : Int) (x.el.toNat : Int) y.ek y.eid y.eg (y.em.toNat : Int) (y.el.toNat : Int) x.ef y.ef HHX.out.e8 HHY.out.e8 wx
    rwa [decide_eq_true (show (x.ek = y.ek ∧ x.eid = y.eid ∧ x.eg = y.eg ∧ ((x.em.toNat : Int) = (y.em.toNat : Int) ∧ (x.el.toNat : Int) = (y.el.toNat : Int) ∧ x.ef = y.ef)) from c_E)] at e)
  have t_dv : (x.dv == y.dv) = true := by simp only [beq_iff_eq]; exact c_dv
  have t_rq : (x.rq == y.rq) = true := by simp only [beq_iff_eq]; exact c_rq
  have t_id : (x.id == y.id) = true := by simp only [beq_iff_eq]; exact c_id
  have t_bs : (x.bs == y.bs) = true := by simp only [beq_iff_eq]; exact c_bs
  have t_kp : (x.kp == y.kp) = true := by simp only [beq_iff_eq]; exact c_kp
  have HEQP : Hid (∀ wx : World, (Op.equalIn 10000 36 (.agg (cmP x).toArray) (.agg (cmP y).toArray)).run Tryz.prog wx = .ok true wx) := Lib.hid (fun wx => by
    have e := eq_patch 9996 (x.pm.toNat : Int) (x.pl.toNat : Int) (y.pm.toNat : Int) (y.pl.toNat : Int) x.pf y.pf HHX.out.p8 HHY.out.p8 wx
    rwa [decide_eq_true (show ((x.pm.toNat : Int) = (y.pm.toNat : Int) ∧ (x.pl.toNat : Int) = (y.pl.toNat : Int) ∧ x.pf = y.pf) from c_P)] at e)
  have HFC : Hid (∀ wx : World, Below w.heap.size w wx → Calls Tryz.prog 15 #[.slice x.A x.n x.c, .slice y.A y.n y.c] wx fun e w' => e = .returned (.bool true) ∧ Below wx.heap.size wx w') := Lib.hid (fun wx hb => by
    have e := rsame_any x.A x.n x.c x.f y.A y.n y.c y.f wx HHX.out.len HHY.out.len ((HHX.out.see.below hb).more hb.size) ((HHY.out.see.below hb).more hb.size) hm
    rwa [decide_eq_true c_f] at e)
  have t_ms : ((x.ms.toNat : Int) == (y.ms.toNat : Int)) = true := by simp only [beq_iff_eq]; exact c_ms
  obtain ⟨xc, hxc⟩ : ∃ c, c = cmc x := ⟨_, rfl⟩
  obtain ⟨yc, hyc⟩ : ∃ c, c = cmc y := ⟨_, rfl⟩
  obtain ⟨xe, hxe⟩ : ∃ c, c = cmE x := ⟨_, rfl⟩
  obtain ⟨xp, hxp⟩ : ∃ c, c = cmP x := ⟨_, rfl⟩
  obtain ⟨ye, hye⟩ : ∃ c, c = cmE y := ⟨_, rfl⟩
  obtain ⟨yp, hyp⟩ : ∃ c, c = cmP y := ⟨_, rfl⟩
  rw [← hxc, ← hyc] at HB HB0 HB1 RP RP' RE RE' aq0 aq30 aq31 aq32 aq33 aq34 aq61 aq62 bq0 bq30 bq31 bq32 bq33 bq34 bq61 bq62 ⊢
  rw [← hxc] at HP62
  rw [← hyc] at HQ62
  rw [← hxe] at HEL HEQE RE
  rw [← hye] at HEL' HEQE RE'
  rw [← hxp] at HPL HEQP RP
  rw [← hyp] at HPL' HEQP RP'
  clear hxc hyc hxe hxp hye hyp a0 a30 a31 a32 a33 a34 a61 a62 b0 b30 b31 b32 b33 b34 b61 b62 B0 B1 hb h h' hHT hm c_kd c_E c_dv c_rq c_id c_bs c_kp c_P c_f c_ms
  go_enter Tryz.func6, Tryz.ntmps6
  dsimp only [List.append]
  go_wp2_with (first
    | (refine wpList_load_g (by rfl) 38 (.tmp 11) rfl w.heap.size 1 rfl xe _ RE hue rfl (by rw [HEL.out]; exact info_edit) ?_; simp only [pq4])
    | (refine wpList_load_g (by rfl) 38 (.tmp 13) rfl (w.heap.size + 1) 1 rfl ye _ RE' hue rfl (by rw [HEL'.out]; exact info_edit) ?_; simp only [pq4])
    | (refine wpList_exec (by rfl) (.bool true) (exec_eql 38 38 (.tmp 12) (.tmp 14) rfl xe.toArray ye.toArray rfl rfl (by kernel_rfl) true (HEQE.out _)) ?_; simp only [pq4])
    | (refine wpList_load_g (by rfl) 36 (.tmp 53) rfl w.heap.size 35 rfl xp _ RP hup rfl (by rw [HPL.out]; exact info_patch) ?_; simp only [pq4])
    | (refine wpList_load_g (by rfl) 36 (.tmp 55) rfl (w.heap.size + 1) 35 rfl yp _ RP' hup rfl (by rw [HPL'.out]; exact info_patch) ?_; simp only [pq4])
    | (refine wpList_exec (by rfl) (.bool true) (exec_eql 36 36 (.tmp 54) (.tmp 56) rfl xp.toArray yp.toArray rfl rfl (by kernel_rfl) true (HEQP.out _)) ?_; simp only [pq4])
    | fail)
  refine (HFC.out _ HB.out).mono ?_
  rintro e w3 ⟨rfl, hb3⟩
  have HBE := hid (HB.out.trans (hb3.mono HB.out.size))
  have r62 := (HB0.out.later hb3).cell HP62.out
  have s62 := (HB1.out.later hb3).cell HQ62.out
  clear hb3 aq0 aq30 aq31 aq32 aq33 aq34 aq61 aq62 bq0 bq30 bq31 bq32 bq33 bq34 bq61 bq62 RP RP' RE RE'
  go_wp2_with fail
  go_ret
  exact ⟨rfl, HBE.out⟩
theorem rcsame_any (x y : Cm) (w : World) (h : okCm w x) (h' : okCm w y) (hm : x.n ≤ 65536) :
    Calls Tryz.prog 6 #[.agg (cmc x).toArray, .agg (cmc y).toArray] w fun e w' => e = .returned (.bool (decide (csm x y))) ∧ Below w.heap.size w w' := by
  by_cases c_kd : x.kd = y.kd
  case neg => exact rcsame_a x y w h h' hm c_kd
  by_cases c_E : ee x y
  case neg => exact rcsame_b x y w h h' hm c_kd c_E
  by_cases c_dv : x.dv = y.dv
  case neg => exact rcsame_c x y w h h' hm c_kd c_E c_dv
  by_cases c_rq : x.rq = y.rq
  case neg => exact rcsame_d x y w h h' hm c_kd c_E c_dv c_rq
  by_cases c_id : x.id = y.id
  case neg => exact rcsame_e x y w h h' hm c_kd c_E c_dv c_rq c_id
  by_cases c_bs : x.bs = y.bs
  case neg => exact rcsame_f x y w h h' hm c_kd c_E c_dv c_rq c_id c_bs
  by_cases c_kp : x.kp = y.kp
  case neg => exact rcsame_g x y w h h' hm c_kd c_E c_dv c_rq c_id c_bs c_kp
  by_cases c_P : pp2 x y
  case neg => exact rcsame_h x y w h h' hm c_kd c_E c_dv c_rq c_id c_bs c_kp c_P
  by_cases c_f : x.f = y.f
  case neg => exact rcsame_i x y w h h' hm c_kd c_E c_dv c_rq c_id c_bs c_kp c_P c_f
  by_cases c_ms : (x.ms.toNat : Int) = (y.ms.toNat : Int)
  case neg => exact rcsame_j x y w h h' hm c_kd c_E c_dv c_rq c_id c_bs c_kp c_P c_f c_ms
  exact rcsame_k x y w h h' hm c_kd c_E c_dv c_rq c_id c_bs c_kp c_P c_f c_ms
end Go.Proofs.YtnhcjadkbogioaaGreat
namespace Go.Proofs.YtnhcjadkbogioaaGreat
open Go Go.RowKit OctM BitM
def BothC (W : World) (gr gm : Nat) (l : List UInt8) (a : Nat) (e : Int) (q : Cm) (t : Cm × Cm) (w' : World) : Prop :=
  Two W w' gr gm l a e (l.drop a) e ∧ (okCm w' t.1 ∧ cab t.1 = q ∧ t.1.n ≤ 31) ∧ okCm w' t.2 ∧ cab t.2 = q
theorem walk_creads (A : Option Addr) (n c : Nat) (l : List UInt8) (w : World) (hn : l.length = n) (hs : Sees w w.heap.size A (bvs l)) :
    Calls Tryz.prog 3 #[.slice A n c] w fun e w' => e = .returned (.bool true) ∧ Below w.heap.size w w' := by
  have hu := Tryz.underlying41
  have HAW := hid (fun wx : World => cm_awake wx)
  obtain ⟨ss, hss⟩ : ∃ z, z = str l := ⟨_, rfl⟩
  have HSS : Hid (∀ wx : World, Below w.heap.size w wx → (convert 22 9 (.slice A n c)).run Tryz.prog wx = .ok (.string ss) wx) := hid (fun wx hb => str_conv wx w.heap.size A n c l ss hn (hs.below hb) hss)
  have HNL := hid hn
  have HS := hid hs
  have HSSL := hid hss
  obtain ⟨zs, hzs⟩ : ∃ zs, zs = cmc zcm := ⟨_, rfl⟩
  have HNI := hid (fun wx : World => nil_cmd wx)
  have HS0 : Hid (∀ wx : World, Calls Tryz.prog 6 #[.agg zs.toArray, .agg zA63] wx fun e w' => e = .returned (.bool true) ∧ Below wx.heap.size wx w') := Lib.hid (fun wx => by
    have h := rcsame_any zcm zcm wx (zcm_ok wx) (zcm_ok wx) (Nat.zero_le _)
    rw [decide_eq_true (csm_self zcm)] at h
    rw [hzs]
    exact h)
  rw [← hzs] at HNI
  clear hzs hn hs hss
  by_cases h5 : n ≤ 1500
  case neg =>
    have d5 : decide ((1500 : Int) < (n : Int)) = true := by simp; omega
    go_enter Tryz.func3, Tryz.ntmps3
    go_wp2_with fail
    refine (HAW.out _).mono ?_
    rintro e wa ⟨rfl, hba⟩
    go_wp2_with fail
    go_ret
    exact ⟨rfl, hba⟩
  have d5 : decide ((1500 : Int) < (n : Int)) = false := by simp; omega
  have hm : l.length ≤ 4000 := by have := HNL.out; omega
  have HDC := hid (fun W (hW : Below w.heap.size w W) => cdec_any A n c l W HNL.out ((HS.out.below hW).more hW.size) (by omega))
  have HRD := hid (fun W => rcdec_any l W hm)
  rw [← HSSL.out] at HRD
  obtain ⟨dq, hdq⟩ : ∃ q, q = decOut l := ⟨_, rfl⟩
  rw [← hdq] at HDC HRD
  obtain ⟨dx, dE⟩ := dq
  clear hdq
  go_enter Tryz.func3, Tryz.ntmps3
  go_wp2_with fail
  refine (rd_new A n c l w HNL.out ((HS.out.below (Below.refl _ _)).more (Nat.le_refl _)) (by omega)).mono ?_
  rintro e w4 ⟨gr, rfl, r1, b1⟩
  have hc1 := HSS.out w4 b1
  have hgr := r1.block
  go_wp2_with fail
  have T0 : Same2 w (w4.alloc (.cells #[.string ss, .int .i64 0] 29)) gr w4.heap.size l 0 0 := by
    refine ⟨⟨r1.later ((Below.refl _ _).alloc (Nat.le_refl _) _), ?_, hgr.2, b1.alloc b1.size _⟩, Nat.zero_le _, hm⟩
    have h := own_lit w4 w.heap.size 29 #[.string ss, .int .i64 0] b1.size (by simp [maxLen])
    rw [HSSL.out] at h ⊢
    exact h
  generalize hgm : w4.heap.size = gm at T0 ⊢
  clear hc1 r1 b1 hgr hgm
  go_loopw [5] (fun i wr => ∃ (k a : Nat) (e : Int), k ≤ 3 ∧ i = .int .i64 k ∧ Same2 w wr gr gm l a e) (fun i _ => 3 - (intOf i).toNat)
  case atStart => exact ⟨0, 0, 0, by omega, rfl, T0⟩
  case round =>
    obtain ⟨k, a, e, hk, rfl, T, ha, hm⟩ := hrel
    have HT := hid T
    clear T0
    by_cases hlt : k < 3
    · have q2 : (k : Int) < 3 := by omega
      have ha2 := cmOut_at (e := e) ha
      have H1 := Lib.hid (fun wx (T : Two w wx gr gm l a e (l.drop a) e) => (cread_any _ gr l a e wx T.1 ha hm).mono fun x w' h => (show ∃ r, x = .returned (.agg (cmc r).toArray) ∧ (okCm w' r ∧ cab r = (cmOut l a e).1 ∧ r.n ≤ 31 ∧ farCm gm r) ∧ Two w w' gr gm l (cmOut l a e).2.1 (cmOut l a e).2.2 (l.drop a) e from by
        obtain ⟨⟨r, h1, h2, h3, h4, h5⟩, h6, h7⟩ := h
        exact ⟨r, h1, ⟨h2, h3, h4, fun ad e hn => by have := h5 ad e hn; have := T.2.1.block.2; omega⟩, T.first h6 h7⟩))
      have H2 := Lib.hid (fun wx (T : Two w wx gr gm l (cmOut l a e).2.1 (cmOut l a e).2.2 (l.drop a) e) (r1 : Cm) (p : okCm wx r1 ∧ cab r1 = (cmOut l a e).1 ∧ r1.n ≤ 31 ∧ farCm gm r1) => (rcread_any _ gm l a e wx T.2.1 ha hm).mono fun x w' h => (show ∃ r, x = .returned (.agg (cmc r).toArray) ∧ BothC w gr gm l (cmOut l a e).2.1 (cmOut l a e).2.2 (cmOut l a e).1 (r1, r) w' from by
        obtain ⟨⟨r, h1, h2, h3, h4, h5⟩, h6, h7⟩ := h
        exact ⟨r, h1, T.second h6 h7, ⟨p.1.kept2 p.2.2.2 p.2.2.2 (Grown2.one h7), p.2.1, p.2.2.1⟩, h2, h3⟩))
      obtain ⟨⟨q, a2, e2⟩, hq⟩ : ∃ q, q = cmOut l a e := ⟨_, rfl⟩
      rw [← hq] at H1 H2 ha2
      simp only at H1 H2 ha2
      clear hq T
      go_wp2_with fail
      refine wp_region_headx 4 76 #[true, true, true, true, false, false, false, false, false, false, false, false, false, false, false, false, false, false, false, false, false, false, false, false, false] (fun t : Cm × Cm => [.pointer (some ⟨gr, 0, none⟩), .agg (cmc t.1).toArray, .pointer (some ⟨gm, 0, none⟩), .agg (cmc t.2).toArray]) (BothC w gr gm l a2 e2 q) (by kernel_rfl) (by kernel_rfl) (by kernel_rfl) (by kernel_rfl) (by intro t; rfl) ?_ ?_
      · intro TAIL
        have T0 := HT.out.later ((Below.refl _ _).drew)
        refine wpAny_step (fuel := 24) [0, 2] (by kernel_rfl) rfl (fun i hi => ?_)
        simp only [List.mem_cons, List.not_mem_nil, or_false] at hi
        rcases hi with rfl | rfl
        · refine wpOp_move _ rfl (.tmp 3) rfl (by rfl) ?_
          simp only [Act.put, List.set_cons_zero, List.set_cons_succ, List.setIfInBounds_toArray]
          refine wpAny_step (fuel := 23) [1, 2] (by kernel_rfl) rfl (fun i hi => ?_)
          simp only [List.mem_cons, List.not_mem_nil, or_false] at hi
          rcases hi with rfl | rfl
          · refine wpOp_call _ rfl 7 #[.pointer (some ⟨gr, 0, none⟩)] (by simp [go_sem]) (by rfl) ((H1.out _ T0).mono ?_)
            rintro e' w1 ⟨r1, rfl, p1, T1⟩
            refine ⟨_, rfl, ?_⟩
            simp only [Act.put, List.set_cons_zero, List.set_cons_succ, List.setIfInBounds_toArray]
            refine wpAny_step (fuel := 22) [2] (by kernel_rfl) rfl (fun i hi => ?_)
            simp only [List.mem_cons, List.not_mem_nil, or_false] at hi
            subst hi
            refine wpOp_move _ rfl (.tmp 4) rfl (by rfl) ?_
            simp only [Act.put, List.set_cons_zero, List.set_cons_succ, List.setIfInBounds_toArray]
            refine wpAny_step (fuel := 21) [3] (by kernel_rfl) rfl (fun i hi => ?_)
            simp only [List.mem_cons, List.not_mem_nil, or_false] at hi
            subst hi
            refine wpOp_call _ rfl 8 #[.pointer (some ⟨gm, 0, none⟩)] (by simp [go_sem]) (by rfl) ((H2.out _ T1 _ p1).mono ?_)
            rintro e' w2 ⟨r2, rfl, p2⟩
            refine ⟨_, rfl, ?_⟩
            simp only [Act.put, List.set_cons_zero, List.set_cons_succ, List.setIfInBounds_toArray]
            exact TAIL (r1, r2) _ p2
          · refine wpOp_move _ rfl (.tmp 4) rfl (by rfl) ?_
            simp only [Act.put, List.set_cons_zero, List.set_cons_succ, List.setIfInBounds_toArray]
            refine wpAny_step (fuel := 22) [1] (by kernel_rfl) rfl (fun i hi => ?_)
            simp only [List.mem_cons, List.not_mem_nil, or_false] at hi
            subst hi
            refine wpOp_call _ rfl 7 #[.pointer (some ⟨gr, 0, none⟩)] (by simp [go_sem]) (by rfl) ((H1.out _ T0).mono ?_)
            rintro e' w1 ⟨r1, rfl, p1, T1⟩
            refine ⟨_, rfl, ?_⟩
            simp only [Act.put, List.set_cons_zero, List.set_cons_succ, List.setIfInBounds_toArray]
            refine wpAny_step (fuel := 21) [3] (by kernel_rfl) rfl (fun i hi => ?_)
            simp only [List.mem_cons, List.not_mem_nil, or_false] at hi
            subst hi
            refine wpOp_call _ rfl 8 #[.pointer (some ⟨gm, 0, none⟩)] (by simp [go_sem]) (by rfl) ((H2.out _ T1 _ p1).mono ?_)
            rintro e' w2 ⟨r2, rfl, p2⟩
            refine ⟨_, rfl, ?_⟩
            simp only [Act.put, List.set_cons_zero, List.set_cons_succ, List.setIfInBounds_toArray]
            exact TAIL (r1, r2) _ p2
        · refine wpOp_move _ rfl (.tmp 4) rfl (by rfl) ?_
          simp only [Act.put, List.set_cons_zero, List.set_cons_succ, List.setIfInBounds_toArray]
          refine wpAny_step (fuel := 23) [0] (by kernel_rfl) rfl (fun i hi => ?_)
          simp only [List.mem_cons, List.not_mem_nil, or_false] at hi
          subst hi
          refine wpOp_move _ rfl (.tmp 3) rfl (by rfl) ?_
          simp only [Act.put, List.set_cons_zero, List.set_cons_succ, List.setIfInBounds_toArray]
          refine wpAny_step (fuel := 22) [1] (by kernel_rfl) rfl (fun i hi => ?_)
          simp only [List.mem_cons, List.not_mem_nil, or_false] at hi
          subst hi
          refine wpOp_call _ rfl 7 #[.pointer (some ⟨gr, 0, none⟩)] (by simp [go_sem]) (by rfl) ((H1.out _ T0).mono ?_)
          rintro e' w1 ⟨r1, rfl, p1, T1⟩
          refine ⟨_, rfl, ?_⟩
          simp only [Act.put, List.set_cons_zero, List.set_cons_succ, List.setIfInBounds_toArray]
          refine wpAny_step (fuel := 21) [3] (by kernel_rfl) rfl (fun i hi => ?_)
          simp only [List.mem_cons, List.not_mem_nil, or_false] at hi
          subst hi
          refine wpOp_call _ rfl 8 #[.pointer (some ⟨gm, 0, none⟩)] (by simp [go_sem]) (by rfl) ((H2.out _ T1 _ p1).mono ?_)
          rintro e' w2 ⟨r2, rfl, p2⟩
          refine ⟨_, rfl, ?_⟩
          simp only [Act.put, List.set_cons_zero, List.set_cons_succ, List.setIfInBounds_toArray]
          exact TAIL (r1, r2) _ p2
      · rintro ⟨r1, r2⟩ w5 ⟨T5, p1, p2⟩
        simp only at p1 p2
        obtain ⟨rest, hrest⟩ : ∃ r, r = l.length - a2 := ⟨_, rfl⟩
        obtain ⟨sr, hsr⟩ : ∃ sr, sr = str (l.drop a2) := ⟨_, rfl⟩
        have zr : sr.size = rest := by rw [hsr, str_size, List.length_drop, hrest]
        have hr2 : rest ≤ 2000 := by have := HNL.out; omega
        have HSS := Lib.hid (fun wx (hl : Le w5 wx) => (show Calls Tryz.prog 6 #[.agg (cmc r1).toArray, .agg (cmc r2).toArray] wx (fun e w' => e = .returned (.bool true) ∧ Below wx.heap.size wx w') from by
          have := rcsame_any r1 r2 wx (p1.1.later hl) (p2.1.later hl) (by have := p1.2.2; omega)
          rwa [decide_eq_true (cab_csm (p1.2.1.trans p2.2.symm))] at this))
        have HLE := hid (fun wx (T : Two w wx gr gm l a2 e2 (l.drop a2) e2) => two_left T ha2 hm rest hrest)
        have HER := hid (fun wx (T : Two w wx gr gm l a2 e2 (l.drop a2) e2) => two_err T)
        have hm0 : ∀ k : LW w5, k.val.cell? ⟨gm, 0, none⟩ = some (.string sr) := fun k => by rw [hsr]; exact (octx2_cells (T5.later k.le)).1
        have hm1 : ∀ k : LW w5, k.val.cell? ⟨gm, 1, none⟩ = some (.int .i64 e2) := fun k => (octx2_cells (T5.later k.le)).2
        clear hrest hsr p1 p2
        generalize cmc r1 = cr1 at *
        generalize cmc r2 = cr2 at *
        simp only [putsAll, List.drop_succ_cons, List.drop_zero]
        simp only [Act.put, List.set_cons_zero, List.set_cons_succ, List.setIfInBounds_toArray]
        refine wpG_call (by rfl) (by rfl) 6 #[.agg cr1.toArray, .agg cr2.toArray] (.bool true) (by intro _; simp [go_sem]) (by kernel_rfl) (fun w1 hl => HSS.out w1 hl.1) ?_
        simp only [Act.put, List.set_cons_zero, List.set_cons_succ, List.setIfInBounds_toArray]
        iterate 3 (refine wpG_quiet (by rfl) (by rfl) (by rfl) (fun K hK => ?_); go_big_quiet_op; refine hK _ ?_; clear hK K)
        refine wpG_call (by rfl) (by rfl) 9 #[.pointer (some ⟨gr, 0, none⟩)] (.int .i64 e2) (by intro _; simp [go_sem]) (by kernel_rfl) (fun w1 hl => HER.out w1 (T5.later hl.1)) ?_
        simp only [Act.put, List.set_cons_zero, List.set_cons_succ, List.setIfInBounds_toArray]
        iterate 8 (refine wpG_quiet (by rfl) (by rfl) (by rfl) (fun K hK => ?_); go_big_quiet_op; refine hK _ ?_; clear hK K)
        refine wpG_call (by rfl) (by rfl) 10 #[.pointer (some ⟨gr, 0, none⟩)] (.int .i64 rest) (by intro _; simp [go_sem]) (by kernel_rfl) (fun w1 hl => HLE.out w1 (T5.later hl.1)) ?_
        simp only [Act.put, List.set_cons_zero, List.set_cons_succ, List.setIfInBounds_toArray]
        iterate 7 (refine wpG_quiet (by rfl) (by rfl) (by rfl) (fun K hK => ?_); go_big_quiet_op; refine hK _ ?_; clear hK K)
        refine wpG_nil (fun w6 hl6 _ => ?_)
        have T6 := T5.later hl6
        go_wp2_with fail
        go_roundw
        case rel => exact ⟨k + 1, a2, e2, by omega, by go_num, T6, ha2, hm⟩
        case measure => simp [intOf]; omega
    · obtain rfl : k = 3 := by omega
      have HB1 := hid T.2.2.2
      clear T HT
      go_wp2_with fail
      refine (HDC.out _ HB1.out).mono ?_
      rintro e v2 ⟨⟨X2, rfl, okX2, cab2, n2⟩, hb2⟩
      obtain ⟨x2, hx2⟩ : ∃ c, c = cmc X2 := ⟨_, rfl⟩
      have HX2L : Hid (x2.length = 63) := hid (by rw [hx2]; exact cmc_len okX2.e8 okX2.p8)
      have HX2O : Hid (x2.toArray.all (·.oneCell') = true) := hid (by rw [hx2]; exact all_oneCell_toArray (cmc_one X2))
      have HX2 := hid hx2
      rw [← hx2]
      clear hx2
      have TH : (v2.alloc (.cells zA63 41)).there v2.heap.size 0 63 := (Blk.new v2 (cmc zcm) 41).there 0 63 (by decide)
      obtain ⟨V3, hV3⟩ : ∃ W, W = (v2.alloc (.cells zA63 41)).setCells v2.heap.size 0 x2 := ⟨_, rfl⟩
      have HV3 := hid hV3
      have hbA := below_a1C v2 (.cells zA63 41)
      have hnb : Blk V3 v2.heap.size x2 := by rw [hV3]; exact (Blk.new v2 (cmc zcm) 41).wholeT (by rw [HX2L.out]; rfl)
      have hlb : Le v2 V3 := by rw [hV3]; exact below_sets (Nat.le_refl _) x2 0 (below_a1C v2 _)
      clear hV3 hbA
      have l23 : Le wr V3 := hb2.trans (hlb.mono hb2.size)
      have HB3 := hid (HB1.out.trans (l23.mono HB1.out.size))
      have HK3 := hid (okX2.later hlb)
      have HC3 := hid hnb
      have HCB2 := hid cab2
      have HN31 : Hid (X2.n ≤ 65536) := hid (by omega)
      have hc3 := HSS.out V3 HB3.out
      clear hb2 hnb hlb okX2 cab2 n2 l23 HB1 HDC
      go_wp2_with (first
        | (refine wpList_store_asC rfl 41 (.tmp 6) (.tmp 52) rfl v2.heap.size 0 x2.toArray rfl rfl (by simpa [HX2L.out] using TH) (by simpa [HX2L.out] using info_cm) HX2O.out V3 HV3.out ?_)
        | fail)
      clear TH HV3 hc3
      generalize v2.heap.size = H2 at *
      refine (HRD.out V3).mono ?_
      rintro e v4 ⟨⟨X4, rfl, okX4, cab4, n4⟩, hb4⟩
      obtain ⟨x4, hx4⟩ : ∃ c, c = cmc X4 := ⟨_, rfl⟩
      have HX4L : Hid (x4.length = 63) := hid (by rw [hx4]; exact cmc_len okX4.e8 okX4.p8)
      have HX4O : Hid (x4.toArray.all (·.oneCell') = true) := hid (by rw [hx4]; exact all_oneCell_toArray (cmc_one X4))
      have HX4 := hid hx4
      rw [← hx4]
      clear hx4
      have TH : (v4.alloc (.cells zA63 41)).there v4.heap.size 0 63 := (Blk.new v4 (cmc zcm) 41).there 0 63 (by decide)
      obtain ⟨V5, hV5⟩ : ∃ W, W = (v4.alloc (.cells zA63 41)).setCells v4.heap.size 0 x4 := ⟨_, rfl⟩
      have HV5 := hid hV5
      have hbA := below_a1C v4 (.cells zA63 41)
      have hnb : Blk V5 v4.heap.size x4 := by rw [hV5]; exact (Blk.new v4 (cmc zcm) 41).wholeT (by rw [HX4L.out]; rfl)
      have hlb : Le v4 V5 := by rw [hV5]; exact below_sets (Nat.le_refl _) x4 0 (below_a1C v4 _)
      clear hV5 hbA
      have l35 : Le V3 V5 := hb4.trans (hlb.mono hb4.size)
      have HB5 := hid (HB3.out.trans (l35.mono HB3.out.size))
      have RG2 := (HC3.out.later l35).range 0 x2 (by rw [List.drop_zero, List.take_length])
      have RG4 := hnb.range 0 x4 (by rw [List.drop_zero, List.take_length])
      have hsm := rcsame_any X2 X4 V5 (HK3.out.later l35) (okX4.later hlb) HN31.out
      rw [decide_eq_true (cab_csm (HCB2.out.trans cab4.symm)), ← HX2.out, ← HX4.out] at hsm
      have HSM := hid hsm
      have hee : (dE == dE) = true := by simp
      clear hb4 hnb hlb okX4 cab4 n4 l35 HB3 HK3 HC3 HCB2 HRD hsm
      go_wp2_with (first
        | (refine wpList_store_asC rfl 41 (.tmp 8) (.tmp 58) rfl v4.heap.size 0 x4.toArray rfl rfl (by simpa [HX4L.out] using TH) (by simpa [HX4L.out] using info_cm) HX4O.out V5 HV5.out ?_)
        | (refine wpList_load_mid rfl 41 (.tmp 6) rfl H2 0 rfl x2 _ RG2 hu rfl (by rw [HX2L.out]; exact info_cm) ?_; simp only [Act.put, List.set_cons_zero, List.set_cons_succ, List.setIfInBounds_toArray])
        | (refine wpList_load_mid rfl 41 (.tmp 8) rfl v4.heap.size 0 rfl x4 _ RG4 hu rfl (by rw [HX4L.out]; exact info_cm) ?_; simp only [Act.put, List.set_cons_zero, List.set_cons_succ, List.setIfInBounds_toArray])
        | fail)
      refine HSM.out.mono ?_
      rintro e v6 ⟨rfl, hb6⟩
      have HB6 := hid (HB5.out.trans (hb6.mono HB5.out.size))
      clear hb6 HSM RG2 RG4 HB5 TH HV5
      go_wp2_with fail
      refine (HNI.out v6).mono ?_
      rintro e v7 ⟨rfl, hb7⟩
      have HB7 := hid (HB6.out.trans (hb7.mono HB6.out.size))
      clear hb7 HB6
      go_wp2_with fail
      refine (HS0.out v7).mono ?_
      rintro e v8 ⟨rfl, hb8⟩
      have HB8 := hid (HB7.out.trans (hb8.mono HB7.out.size))
      clear hb8 HB7
      go_wp2_with fail
      refine (HAW.out v8).mono ?_
      rintro e v9 ⟨rfl, hb9⟩
      have HB9 := hid (HB8.out.trans (hb9.mono HB8.out.size))
      clear hb9 HB8
      go_wp2_with fail
      go_ret
      exact ⟨rfl, HB9.out⟩
end Go.Proofs.YtnhcjadkbogioaaGreat
