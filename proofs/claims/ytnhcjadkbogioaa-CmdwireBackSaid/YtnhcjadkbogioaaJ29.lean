/- Commands: are two the same? The document's word. -/
import Derived.Test.YtnhcjadkbogioaaJ22
import Derived.Test.YtnhcjadkbogioaaJ28
set_option maxRecDepth 100000
set_option maxHeartbeats 6400000
namespace Go.Proofs.Ytnhcjadkbogioaa
set_option linter.unusedVariables false
set_option linter.unusedSimpArgs false
open Go Go.RowKit OctM
theorem rcsame_b (x y : Cm) (w : World) (h : okCm w x) (h' : okCm w y) (hm : x.n ≤ 65536) (c_kd : x.kd = y.kd) (c_E : ¬ (ee x y)) :
    Calls Try.prog 10 #[.agg (cmc x).toArray, .agg (cmc y).toArray] w fun e w' => e = .returned (.bool (decide (csm x y))) ∧ Below w.heap.size w w' := by
  have hue := Try.underlying29
  have hup := Try.underlying27
  have HEL := hid (cmE_len h.e8)
  have HPL := hid (cmP_len h.p8)
  have HEL' := hid (cmE_len h'.e8)
  have HPL' := hid (cmP_len h'.p8)
  have HHX := hid h
  have HHY := hid h'
  have B0 := (Blk.new w (cmc x) 32).alloc (.cells (cmc y).toArray 32)
  have B1 := Blk.new (w.alloc (.cells (cmc x).toArray 32)) (cmc y) 32
  rw [show (w.alloc (.cells (cmc x).toArray 32)).heap.size = w.heap.size + 1 by simp] at B1
  have hb : Below w.heap.size w ((w.alloc (.cells (cmc x).toArray 32)).alloc (.cells (cmc y).toArray 32)) := (below_a1C _ _).alloc (below_a1C _ _).size _
  have HB := hid hb
  have RE := B0.range 1 (cmE x) (cm_edit h.e8 h.p8)
  have RP := B0.range 35 (cmP x) (cm_patch h.e8 h.p8)
  have RE' := B1.range 1 (cmE y) (cm_edit h'.e8 h'.p8)
  have RP' := B1.range 35 (cmP y) (cm_patch h'.e8 h'.p8)
  obtain ⟨a0, a30, a31, a32, a33, a34, a61, a62⟩ := cm_at h.e8 h.p8
  obtain ⟨b0, b30, b31, b32, b33, b34, b61, b62⟩ := cm_at h'.e8 h'.p8
  have aq0 := B0.cell a0
  have aq30 := B0.cell a30
  have aq31 := B0.cell a31
  have aq32 := B0.cell a32
  have aq33 := B0.cell a33
  have aq34 := B0.cell a34
  have aq61 := B0.cell a61
  have aq62 := B0.cell a62
  have bq0 := B1.cell b0
  have bq30 := B1.cell b30
  have bq31 := B1.cell b31
  have bq32 := B1.cell b32
  have bq33 := B1.cell b33
  have bq34 := B1.cell b34
  have bq61 := B1.cell b61
  have bq62 := B1.cell b62
  have HB0 := hid B0
  have HB1 := hid B1
  have HP62 := hid a62
  have HQ62 := hid b62
  have hHT : decide (csm x y) = false := decide_eq_false (fun e => c_E (e.2.1))
  rw [hHT]
  have t_kd : (x.kd == y.kd) = true := by simp only [beq_iff_eq]; exact c_kd
  have HEQE : Hid (∀ wx : World, (Op.equalIn 10000 29 (.agg (cmE x).toArray) (.agg (cmE y).toArray)).run Try.prog wx = .ok false wx) := hid (fun wx => by
    have e := eq_editC 9995 x.ek x.eid x.eg (x.em.toNat : Int) (x.el.toNat : Int) y.ek y.eid y.eg (y.em.toNat : Int) (y.el.toNat : Int) x.ef y.ef HHX.out.e8 HHY.out.e8 wx
    rwa [decide_eq_false (show ¬ (x.ek = y.ek ∧ x.eid = y.eid ∧ x.eg = y.eg ∧ ((x.em.toNat : Int) = (y.em.toNat : Int) ∧ (x.el.toNat : Int) = (y.el.toNat : Int) ∧ x.ef = y.ef)) from c_E)] at e)
  obtain ⟨xc, hxc⟩ : ∃ c, c = cmc x := ⟨_, rfl⟩
  obtain ⟨yc, hyc⟩ : ∃ c, c = cmc y := ⟨_, rfl⟩
  obtain ⟨xe, hxe⟩ : ∃ c, c = cmE x := ⟨_, rfl⟩
  obtain ⟨xp, hxp⟩ : ∃ c, c = cmP x := ⟨_, rfl⟩
  obtain ⟨ye, hye⟩ : ∃ c, c = cmE y := ⟨_, rfl⟩
  obtain ⟨yp, hyp⟩ : ∃ c, c = cmP y := ⟨_, rfl⟩
  rw [← hxc, ← hyc] at HB HB0 HB1 RP RP' RE RE' aq0 aq30 aq31 aq32 aq33 aq34 aq61 aq62 bq0 bq30 bq31 bq32 bq33 bq34 bq61 bq62 ⊢
  rw [← hxc] at HP62
  rw [← hyc] at HQ62
  rw [← hxe] at HEL HEQE RE
  rw [← hye] at HEL' HEQE RE'
  rw [← hxp] at HPL RP
  rw [← hyp] at HPL' RP'
  clear hxc hyc hxe hxp hye hyp a0 a30 a31 a32 a33 a34 a61 a62 b0 b30 b31 b32 b33 b34 b61 b62 B0 B1 hb h h' hHT hm c_kd c_E
  go_enter Try.func10, Try.ntmps10
  dsimp only [List.append]
  go_wp2_with (first
    | (refine wpList_load_g (by rfl) 29 (.tmp 11) rfl w.heap.size 1 rfl xe _ RE hue rfl (by rw [HEL.out]; exact info_edit) ?_; simp only [pq4])
    | (refine wpList_load_g (by rfl) 29 (.tmp 13) rfl (w.heap.size + 1) 1 rfl ye _ RE' hue rfl (by rw [HEL'.out]; exact info_edit) ?_; simp only [pq4])
    | (refine wpList_exec (by rfl) (.bool false) (exec_eql 29 29 (.tmp 12) (.tmp 14) rfl xe.toArray ye.toArray rfl rfl (by kernel_rfl) false (HEQE.out _)) ?_; simp only [pq4])
    | fail)
  go_ret
  exact ⟨rfl, HB.out⟩
theorem rcsame_c (x y : Cm) (w : World) (h : okCm w x) (h' : okCm w y) (hm : x.n ≤ 65536) (c_kd : x.kd = y.kd) (c_E : ee x y) (c_dv : ¬ (x.dv = y.dv)) :
    Calls Try.prog 10 #[.agg (cmc x).toArray, .agg (cmc y).toArray] w fun e w' => e = .returned (.bool (decide (csm x y))) ∧ Below w.heap.size w w' := by
  have hue := Try.underlying29
  have hup := Try.underlying27
  have HEL := hid (cmE_len h.e8)
  have HPL := hid (cmP_len h.p8)
  have HEL' := hid (cmE_len h'.e8)
  have HPL' := hid (cmP_len h'.p8)
  have HHX := hid h
  have HHY := hid h'
  have B0 := (Blk.new w (cmc x) 32).alloc (.cells (cmc y).toArray 32)
  have B1 := Blk.new (w.alloc (.cells (cmc x).toArray 32)) (cmc y) 32
  rw [show (w.alloc (.cells (cmc x).toArray 32)).heap.size = w.heap.size + 1 by simp] at B1
  have hb : Below w.heap.size w ((w.alloc (.cells (cmc x).toArray 32)).alloc (.cells (cmc y).toArray 32)) := (below_a1C _ _).alloc (below_a1C _ _).size _
  have HB := hid hb
  have RE := B0.range 1 (cmE x) (cm_edit h.e8 h.p8)
  have RP := B0.range 35 (cmP x) (cm_patch h.e8 h.p8)
  have RE' := B1.range 1 (cmE y) (cm_edit h'.e8 h'.p8)
  have RP' := B1.range 35 (cmP y) (cm_patch h'.e8 h'.p8)
  obtain ⟨a0, a30, a31, a32, a33, a34, a61, a62⟩ := cm_at h.e8 h.p8
  obtain ⟨b0, b30, b31, b32, b33, b34, b61, b62⟩ := cm_at h'.e8 h'.p8
  have aq0 := B0.cell a0
  have aq30 := B0.cell a30
  have aq31 := B0.cell a31
  have aq32 := B0.cell a32
  have aq33 := B0.cell a33
  have aq34 := B0.cell a34
  have aq61 := B0.cell a61
  have aq62 := B0.cell a62
  have bq0 := B1.cell b0
  have bq30 := B1.cell b30
  have bq31 := B1.cell b31
  have bq32 := B1.cell b32
  have bq33 := B1.cell b33
  have bq34 := B1.cell b34
  have bq61 := B1.cell b61
  have bq62 := B1.cell b62
  have HB0 := hid B0
  have HB1 := hid B1
  have HP62 := hid a62
  have HQ62 := hid b62
  have hHT : decide (csm x y) = false := decide_eq_false (fun e => c_dv (e.2.2.1))
  rw [hHT]
  have t_kd : (x.kd == y.kd) = true := by simp only [beq_iff_eq]; exact c_kd
  have HEQE : Hid (∀ wx : World, (Op.equalIn 10000 29 (.agg (cmE x).toArray) (.agg (cmE y).toArray)).run Try.prog wx = .ok true wx) := hid (fun wx => by
    have e := eq_editC 9995 x.ek x.eid x.eg (x.em.toNat : Int) (x.el.toNat : Int) y.ek y.eid y.eg (y.em.toNat : Int) (y.el.toNat : Int) x.ef y.ef HHX.out.e8 HHY.out.e8 wx
    rwa [decide_eq_true (show (x.ek = y.ek ∧ x.eid = y.eid ∧ x.eg = y.eg ∧ ((x.em.toNat : Int) = (y.em.toNat : Int) ∧ (x.el.toNat : Int) = (y.el.toNat : Int) ∧ x.ef = y.ef)) from c_E)] at e)
  have t_dv : (x.dv == y.dv) = false := by simp only [beq_eq_false_iff_ne]; exact c_dv
  obtain ⟨xc, hxc⟩ : ∃ c, c = cmc x := ⟨_, rfl⟩
  obtain ⟨yc, hyc⟩ : ∃ c, c = cmc y := ⟨_, rfl⟩
  obtain ⟨xe, hxe⟩ : ∃ c, c = cmE x := ⟨_, rfl⟩
  obtain ⟨xp, hxp⟩ : ∃ c, c = cmP x := ⟨_, rfl⟩
  obtain ⟨ye, hye⟩ : ∃ c, c = cmE y := ⟨_, rfl⟩
  obtain ⟨yp, hyp⟩ : ∃ c, c = cmP y := ⟨_, rfl⟩
  rw [← hxc, ← hyc] at HB HB0 HB1 RP RP' RE RE' aq0 aq30 aq31 aq32 aq33 aq34 aq61 aq62 bq0 bq30 bq31 bq32 bq33 bq34 bq61 bq62 ⊢
  rw [← hxc] at HP62
  rw [← hyc] at HQ62
  rw [← hxe] at HEL HEQE RE
  rw [← hye] at HEL' HEQE RE'
  rw [← hxp] at HPL RP
  rw [← hyp] at HPL' RP'
  clear hxc hyc hxe hxp hye hyp a0 a30 a31 a32 a33 a34 a61 a62 b0 b30 b31 b32 b33 b34 b61 b62 B0 B1 hb h h' hHT hm c_kd c_E c_dv
  go_enter Try.func10, Try.ntmps10
  dsimp only [List.append]
  go_wp2_with (first
    | (refine wpList_load_g (by rfl) 29 (.tmp 11) rfl w.heap.size 1 rfl xe _ RE hue rfl (by rw [HEL.out]; exact info_edit) ?_; simp only [pq4])
    | (refine wpList_load_g (by rfl) 29 (.tmp 13) rfl (w.heap.size + 1) 1 rfl ye _ RE' hue rfl (by rw [HEL'.out]; exact info_edit) ?_; simp only [pq4])
    | (refine wpList_exec (by rfl) (.bool true) (exec_eql 29 29 (.tmp 12) (.tmp 14) rfl xe.toArray ye.toArray rfl rfl (by kernel_rfl) true (HEQE.out _)) ?_; simp only [pq4])
    | fail)
  go_ret
  exact ⟨rfl, HB.out⟩
theorem rcsame_d (x y : Cm) (w : World) (h : okCm w x) (h' : okCm w y) (hm : x.n ≤ 65536) (c_kd : x.kd = y.kd) (c_E : ee x y) (c_dv : x.dv = y.dv) (c_rq : ¬ (x.rq = y.rq)) :
    Calls Try.prog 10 #[.agg (cmc x).toArray, .agg (cmc y).toArray] w fun e w' => e = .returned (.bool (decide (csm x y))) ∧ Below w.heap.size w w' := by
  have hue := Try.underlying29
  have hup := Try.underlying27
  have HEL := hid (cmE_len h.e8)
  have HPL := hid (cmP_len h.p8)
  have HEL' := hid (cmE_len h'.e8)
  have HPL' := hid (cmP_len h'.p8)
  have HHX := hid h
  have HHY := hid h'
  have B0 := (Blk.new w (cmc x) 32).alloc (.cells (cmc y).toArray 32)
  have B1 := Blk.new (w.alloc (.cells (cmc x).toArray 32)) (cmc y) 32
  rw [show (w.alloc (.cells (cmc x).toArray 32)).heap.size = w.heap.size + 1 by simp] at B1
  have hb : Below w.heap.size w ((w.alloc (.cells (cmc x).toArray 32)).alloc (.cells (cmc y).toArray 32)) := (below_a1C _ _).alloc (below_a1C _ _).size _
  have HB := hid hb
  have RE := B0.range 1 (cmE x) (cm_edit h.e8 h.p8)
  have RP := B0.range 35 (cmP x) (cm_patch h.e8 h.p8)
  have RE' := B1.range 1 (cmE y) (cm_edit h'.e8 h'.p8)
  have RP' := B1.range 35 (cmP y) (cm_patch h'.e8 h'.p8)
  obtain ⟨a0, a30, a31, a32, a33, a34, a61, a62⟩ := cm_at h.e8 h.p8
  obtain ⟨b0, b30, b31, b32, b33, b34, b61, b62⟩ := cm_at h'.e8 h'.p8
  have aq0 := B0.cell a0
  have aq30 := B0.cell a30
  have aq31 := B0.cell a31
  have aq32 := B0.cell a32
  have aq33 := B0.cell a33
  have aq34 := B0.cell a34
  have aq61 := B0.cell a61
  have aq62 := B0.cell a62
  have bq0 := B1.cell b0
  have bq30 := B1.cell b30
  have bq31 := B1.cell b31
  have bq32 := B1.cell b32
  have bq33 := B1.cell b33
  have bq34 := B1.cell b34
  have bq61 := B1.cell b61
  have bq62 := B1.cell b62
  have HB0 := hid B0
  have HB1 := hid B1
  have HP62 := hid a62
  have HQ62 := hid b62
  have hHT : decide (csm x y) = false := decide_eq_false (fun e => c_rq (e.2.2.2.1))
  rw [hHT]
  have t_kd : (x.kd == y.kd) = true := by simp only [beq_iff_eq]; exact c_kd
  have HEQE : Hid (∀ wx : World, (Op.equalIn 10000 29 (.agg (cmE x).toArray) (.agg (cmE y).toArray)).run Try.prog wx = .ok true wx) := hid (fun wx => by
    have e := eq_editC 9995 x.ek x.eid x.eg (x.em.toNat : Int) (x.el.toNat : Int) y.ek y.eid y.eg (y.em.toNat : Int) (y.el.toNat : Int) x.ef y.ef HHX.out.e8 HHY.out.e8 wx
    rwa [decide_eq_true (show (x.ek = y.ek ∧ x.eid = y.eid ∧ x.eg = y.eg ∧ ((x.em.toNat : Int) = (y.em.toNat : Int) ∧ (x.el.toNat : Int) = (y.el.toNat : Int) ∧ x.ef = y.ef)) from c_E)] at e)
  have t_dv : (x.dv == y.dv) = true := by simp only [beq_iff_eq]; exact c_dv
  have t_rq : (x.rq == y.rq) = false := by simp only [beq_eq_false_iff_ne]; exact c_rq
  obtain ⟨xc, hxc⟩ : ∃ c, c = cmc x := ⟨_, rfl⟩
  obtain ⟨yc, hyc⟩ : ∃ c, c = cmc y := ⟨_, rfl⟩
  obtain ⟨xe, hxe⟩ : ∃ c, c = cmE x := ⟨_, rfl⟩
  obtain ⟨xp, hxp⟩ : ∃ c, c = cmP x := ⟨_, rfl⟩
  obtain ⟨ye, hye⟩ : ∃ c, c = cmE y := ⟨_, rfl⟩
  obtain ⟨yp, hyp⟩ : ∃ c, c = cmP y := ⟨_, rfl⟩
  rw [← hxc, ← hyc] at HB HB0 HB1 RP RP' RE RE' aq0 aq30 aq31 aq32 aq33 aq34 aq61 aq62 bq0 bq30 bq31 bq32 bq33 bq34 bq61 bq62 ⊢
  rw [← hxc] at HP62
  rw [← hyc] at HQ62
  rw [← hxe] at HEL HEQE RE
  rw [← hye] at HEL' HEQE RE'
  rw [← hxp] at HPL RP
  rw [← hyp] at HPL' RP'
  clear hxc hyc hxe hxp hye hyp a0 a30 a31 a32 a33 a34 a61 a62 b0 b30 b31 b32 b33 b34 b61 b62 B0 B1 hb h h' hHT hm c_kd c_E c_dv c_rq
  go_enter Try.func10, Try.ntmps10
  dsimp only [List.append]
  go_wp2_with (first
    | (refine wpList_load_g (by rfl) 29 (.tmp 11) rfl w.heap.size 1 rfl xe _ RE hue rfl (by rw [HEL.out]; exact info_edit) ?_; simp only [pq4])
    | (refine wpList_load_g (by rfl) 29 (.tmp 13) rfl (w.heap.size + 1) 1 rfl ye _ RE' hue rfl (by rw [HEL'.out]; exact info_edit) ?_; simp only [pq4])
    | (refine wpList_exec (by rfl) (.bool true) (exec_eql 29 29 (.tmp 12) (.tmp 14) rfl xe.toArray ye.toArray rfl rfl (by kernel_rfl) true (HEQE.out _)) ?_; simp only [pq4])
    | fail)
  go_ret
  exact ⟨rfl, HB.out⟩
theorem rcsame_e (x y : Cm) (w : World) (h : okCm w x) (h' : okCm w y) (hm : x.n ≤ 65536) (c_kd : x.kd = y.kd) (c_E : ee x y) (c_dv : x.dv = y.dv) (c_rq : x.rq = y.rq) (c_id : ¬ (x.id = y.id)) :
    Calls Try.prog 10 #[.agg (cmc x).toArray, .agg (cmc y).toArray] w fun e w' => e = .returned (.bool (decide (csm x y))) ∧ Below w.heap.size w w' := by
  have hue := Try.underlying29
  have hup := Try.underlying27
  have HEL := hid (cmE_len h.e8)
  have HPL := hid (cmP_len h.p8)
  have HEL' := hid (cmE_len h'.e8)
  have HPL' := hid (cmP_len h'.p8)
  have HHX := hid h
  have HHY := hid h'
  have B0 := (Blk.new w (cmc x) 32).alloc (.cells (cmc y).toArray 32)
  have B1 := Blk.new (w.alloc (.cells (cmc x).toArray 32)) (cmc y) 32
  rw [show (w.alloc (.cells (cmc x).toArray 32)).heap.size = w.heap.size + 1 by simp] at B1
  have hb : Below w.heap.size w ((w.alloc (.cells (cmc x).toArray 32)).alloc (.cells (cmc y).toArray 32)) := (below_a1C _ _).alloc (below_a1C _ _).size _
  have HB := hid hb
  have RE := B0.range 1 (cmE x) (cm_edit h.e8 h.p8)
  have RP := B0.range 35 (cmP x) (cm_patch h.e8 h.p8)
  have RE' := B1.range 1 (cmE y) (cm_edit h'.e8 h'.p8)
  have RP' := B1.range 35 (cmP y) (cm_patch h'.e8 h'.p8)
  obtain ⟨a0, a30, a31, a32, a33, a34, a61, a62⟩ := cm_at h.e8 h.p8
  obtain ⟨b0, b30, b31, b32, b33, b34, b61, b62⟩ := cm_at h'.e8 h'.p8
  have aq0 := B0.cell a0
  have aq30 := B0.cell a30
  have aq31 := B0.cell a31
  have aq32 := B0.cell a32
  have aq33 := B0.cell a33
  have aq34 := B0.cell a34
  have aq61 := B0.cell a61
  have aq62 := B0.cell a62
  have bq0 := B1.cell b0
  have bq30 := B1.cell b30
  have bq31 := B1.cell b31
  have bq32 := B1.cell b32
  have bq33 := B1.cell b33
  have bq34 := B1.cell b34
  have bq61 := B1.cell b61
  have bq62 := B1.cell b62
  have HB0 := hid B0
  have HB1 := hid B1
  have HP62 := hid a62
  have HQ62 := hid b62
  have hHT : decide (csm x y) = false := decide_eq_false (fun e => c_id (e.2.2.2.2.1))
  rw [hHT]
  have t_kd : (x.kd == y.kd) = true := by simp only [beq_iff_eq]; exact c_kd
  have HEQE : Hid (∀ wx : World, (Op.equalIn 10000 29 (.agg (cmE x).toArray) (.agg (cmE y).toArray)).run Try.prog wx = .ok true wx) := hid (fun wx => by
    have e := eq_editC 9995 x.ek x.eid x.eg (x.em.toNat : Int) (x.el.toNat : Int) y.ek y.eid y.eg (y.em.toNat : Int) (y.el.toNat : Int) x.ef y.ef HHX.out.e8 HHY.out.e8 wx
    rwa [decide_eq_true (show (x.ek = y.ek ∧ x.eid = y.eid ∧ x.eg = y.eg ∧ ((x.em.toNat : Int) = (y.em.toNat : Int) ∧ (x.el.toNat : Int) = (y.el.toNat : Int) ∧ x.ef = y.ef)) from c_E)] at e)
  have t_dv : (x.dv == y.dv) = true := by simp only [beq_iff_eq]; exact c_dv
  have t_rq : (x.rq == y.rq) = true := by simp only [beq_iff_eq]; exact c_rq
  have t_id : (x.id == y.id) = false := by simp only [beq_eq_false_iff_ne]; exact c_id
  obtain ⟨xc, hxc⟩ : ∃ c, c = cmc x := ⟨_, rfl⟩
  obtain ⟨yc, hyc⟩ : ∃ c, c = cmc y := ⟨_, rfl⟩
  obtain ⟨xe, hxe⟩ : ∃ c, c = cmE x := ⟨_, rfl⟩
  obtain ⟨xp, hxp⟩ : ∃ c, c = cmP x := ⟨_, rfl⟩
  obtain ⟨ye, hye⟩ : ∃ c, c = cmE y := ⟨_, rfl⟩
  obtain ⟨yp, hyp⟩ : ∃ c, c = cmP y := ⟨_, rfl⟩
  rw [← hxc, ← hyc] at HB HB0 HB1 RP RP' RE RE' aq0 aq30 aq31 aq32 aq33 aq34 aq61 aq62 bq0 bq30 bq31 bq32 bq33 bq34 bq61 bq62 ⊢
  rw [← hxc] at HP62
  rw [← hyc] at HQ62
  rw [← hxe] at HEL HEQE RE
  rw [← hye] at HEL' HEQE RE'
  rw [← hxp] at HPL RP
  rw [← hyp] at HPL' RP'
  clear hxc hyc hxe hxp hye hyp a0 a30 a31 a32 a33 a34 a61 a62 b0 b30 b31 b32 b33 b34 b61 b62 B0 B1 hb h h' hHT hm c_kd c_E c_dv c_rq c_id
  go_enter Try.func10, Try.ntmps10
  dsimp only [List.append]
  go_wp2_with (first
    | (refine wpList_load_g (by rfl) 29 (.tmp 11) rfl w.heap.size 1 rfl xe _ RE hue rfl (by rw [HEL.out]; exact info_edit) ?_; simp only [pq4])
    | (refine wpList_load_g (by rfl) 29 (.tmp 13) rfl (w.heap.size + 1) 1 rfl ye _ RE' hue rfl (by rw [HEL'.out]; exact info_edit) ?_; simp only [pq4])
    | (refine wpList_exec (by rfl) (.bool true) (exec_eql 29 29 (.tmp 12) (.tmp 14) rfl xe.toArray ye.toArray rfl rfl (by kernel_rfl) true (HEQE.out _)) ?_; simp only [pq4])
    | fail)
  go_ret
  exact ⟨rfl, HB.out⟩
theorem rcsame_f (x y : Cm) (w : World) (h : okCm w x) (h' : okCm w y) (hm : x.n ≤ 65536) (c_kd : x.kd = y.kd) (c_E : ee x y) (c_dv : x.dv = y.dv) (c_rq : x.rq = y.rq) (c_id : x.id = y.id) (c_bs : ¬ (x.bs = y.bs)) :
    Calls Try.prog 10 #[.agg (cmc x).toArray, .agg (cmc y).toArray] w fun e w' => e = .returned (.bool (decide (csm x y))) ∧ Below w.heap.size w w' := by
  have hue := Try.underlying29
  have hup := Try.underlying27
  have HEL := hid (cmE_len h.e8)
  have HPL := hid (cmP_len h.p8)
  have HEL' := hid (cmE_len h'.e8)
  have HPL' := hid (cmP_len h'.p8)
  have HHX := hid h
  have HHY := hid h'
  have B0 := (Blk.new w (cmc x) 32).alloc (.cells (cmc y).toArray 32)
  have B1 := Blk.new (w.alloc (.cells (cmc x).toArray 32)) (cmc y) 32
  rw [show (w.alloc (.cells (cmc x).toArray 32)).heap.size = w.heap.size + 1 by simp] at B1
  have hb : Below w.heap.size w ((w.alloc (.cells (cmc x).toArray 32)).alloc (.cells (cmc y).toArray 32)) := (below_a1C _ _).alloc (below_a1C _ _).size _
  have HB := hid hb
  have RE := B0.range 1 (cmE x) (cm_edit h.e8 h.p8)
  have RP := B0.range 35 (cmP x) (cm_patch h.e8 h.p8)
  have RE' := B1.range 1 (cmE y) (cm_edit h'.e8 h'.p8)
  have RP' := B1.range 35 (cmP y) (cm_patch h'.e8 h'.p8)
  obtain ⟨a0, a30, a31, a32, a33, a34, a61, a62⟩ := cm_at h.e8 h.p8
  obtain ⟨b0, b30, b31, b32, b33, b34, b61, b62⟩ := cm_at h'.e8 h'.p8
  have aq0 := B0.cell a0
  have aq30 := B0.cell a30
  have aq31 := B0.cell a31
  have aq32 := B0.cell a32
  have aq33 := B0.cell a33
  have aq34 := B0.cell a34
  have aq61 := B0.cell a61
  have aq62 := B0.cell a62
  have bq0 := B1.cell b0
  have bq30 := B1.cell b30
  have bq31 := B1.cell b31
  have bq32 := B1.cell b32
  have bq33 := B1.cell b33
  have bq34 := B1.cell b34
  have bq61 := B1.cell b61
  have bq62 := B1.cell b62
  have HB0 := hid B0
  have HB1 := hid B1
  have HP62 := hid a62
  have HQ62 := hid b62
  have hHT : decide (csm x y) = false := decide_eq_false (fun e => c_bs (e.2.2.2.2.2.1))
  rw [hHT]
  have t_kd : (x.kd == y.kd) = true := by simp only [beq_iff_eq]; exact c_kd
  have HEQE : Hid (∀ wx : World, (Op.equalIn 10000 29 (.agg (cmE x).toArray) (.agg (cmE y).toArray)).run Try.prog wx = .ok true wx) := hid (fun wx => by
    have e := eq_editC 9995 x.ek x.eid x.eg (x.em.toNat : Int) (x.el.toNat : Int) y.ek y.eid y.eg (y.em.toNat : Int) (y.el.toNat : Int) x.ef y.ef HHX.out.e8 HHY.out.e8 wx
    rwa [decide_eq_true (show (x.ek = y.ek ∧ x.eid = y.eid ∧ x.eg = y.eg ∧ ((x.em.toNat : Int) = (y.em.toNat : Int) ∧ (x.el.toNat : Int) = (y.el.toNat : Int) ∧ x.ef = y.ef)) from c_E)] at e)
  have t_dv : (x.dv == y.dv) = true := by simp only [beq_iff_eq]; exact c_dv
  have t_rq : (x.rq == y.rq) = true := by simp only [beq_iff_eq]; exact c_rq
  have t_id : (x.id == y.id) = true := by simp only [beq_iff_eq]; exact c_id
  have t_bs : (x.bs == y.bs) = false := by simp only [beq_eq_false_iff_ne]; exact c_bs
  obtain ⟨xc, hxc⟩ : ∃ c, c = cmc x := ⟨_, rfl⟩
  obtain ⟨yc, hyc⟩ : ∃ c, c = cmc y := ⟨_, rfl⟩
  obtain ⟨xe, hxe⟩ : ∃ c, c = cmE x := ⟨_, rfl⟩
  obtain ⟨xp, hxp⟩ : ∃ c, c = cmP x := ⟨_, rfl⟩
  obtain ⟨ye, hye⟩ : ∃ c, c = cmE y := ⟨_, rfl⟩
  obtain ⟨yp, hyp⟩ : ∃ c, c = cmP y := ⟨_, rfl⟩
  rw [← hxc, ← hyc] at HB HB0 HB1 RP RP' RE RE' aq0 aq30 aq31 aq32 aq33 aq34 aq61 aq62 bq0 bq30 bq31 bq32 bq33 bq34 bq61 bq62 ⊢
  rw [← hxc] at HP62
  rw [← hyc] at HQ62
  rw [← hxe] at HEL HEQE RE
  rw [← hye] at HEL' HEQE RE'
  rw [← hxp] at HPL RP
  rw [← hyp] at HPL' RP'
  clear hxc hyc hxe hxp hye hyp a0 a30 a31 a32 a33 a34 a61 a62 b0 b30 b31 b32 b33 b34 b61 b62 B0 B1 hb h h' hHT hm c_kd c_E c_dv c_rq c_id c_bs
  go_enter Try.func10, Try.ntmps10
  dsimp only [List.append]
  go_wp2_with (first
    | (refine wpList_load_g (by rfl) 29 (.tmp 11) rfl w.heap.size 1 rfl xe _ RE hue rfl (by rw [HEL.out]; exact info_edit) ?_; simp only [pq4])
    | (refine wpList_load_g (by rfl) 29 (.tmp 13) rfl (w.heap.size + 1) 1 rfl ye _ RE' hue rfl (by rw [HEL'.out]; exact info_edit) ?_; simp only [pq4])
    | (refine wpList_exec (by rfl) (.bool true) (exec_eql 29 29 (.tmp 12) (.tmp 14) rfl xe.toArray ye.toArray rfl rfl (by kernel_rfl) true (HEQE.out _)) ?_; simp only [pq4])
    | fail)
  go_ret
  exact ⟨rfl, HB.out⟩
theorem rcsame_g (x y : Cm) (w : World) (h : okCm w x) (h' : okCm w y) (hm : x.n ≤ 65536) (c_kd : x.kd = y.kd) (c_E : ee x y) (c_dv : x.dv = y.dv) (c_rq : x.rq = y.rq) (c_id : x.id = y.id) (c_bs : x.bs = y.bs) (c_kp : ¬ (x.kp = y.kp)) :
    Calls Try.prog 10 #[.agg (cmc x).toArray, .agg (cmc y).toArray] w fun e w' => e = .returned (.bool (decide (csm x y))) ∧ Below w.heap.size w w' := by
  have hue := Try.underlying29
  have hup := Try.underlying27
  have HEL := hid (cmE_len h.e8)
  have HPL := hid (cmP_len h.p8)
  have HEL' := hid (cmE_len h'.e8)
  have HPL' := hid (cmP_len h'.p8)
  have HHX := hid h
  have HHY := hid h'
  have B0 := (Blk.new w (cmc x) 32).alloc (.cells (cmc y).toArray 32)
  have B1 := Blk.new (w.alloc (.cells (cmc x).toArray 32)) (cmc y) 32
  rw [show (w.alloc (.cells (cmc x).toArray 32)).heap.size = w.heap.size + 1 by simp] at B1
  have hb : Below w.heap.size w ((w.alloc (.cells (cmc x).toArray 32)).alloc (.cells (cmc y).toArray 32)) := (below_a1C _ _).alloc (below_a1C _ _).size _
  have HB := hid hb
  have RE := B0.range 1 (cmE x) (cm_edit h.e8 h.p8)
  have RP := B0.range 35 (cmP x) (cm_patch h.e8 h.p8)
  have RE' := B1.range 1 (cmE y) (cm_edit h'.e8 h'.p8)
  have RP' := B1.range 35 (cmP y) (cm_patch h'.e8 h'.p8)
  obtain ⟨a0, a30, a31, a32, a33, a34, a61, a62⟩ := cm_at h.e8 h.p8
  obtain ⟨b0, b30, b31, b32, b33, b34, b61, b62⟩ := cm_at h'.e8 h'.p8
  have aq0 := B0.cell a0
  have aq30 := B0.cell a30
  have aq31 := B0.cell a31
  have aq32 := B0.cell a32
  have aq33 := B0.cell a33
  have aq34 := B0.cell a34
  have aq61 := B0.cell a61
  have aq62 := B0.cell a62
  have bq0 := B1.cell b0
  have bq30 := B1.cell b30
  have bq31 := B1.cell b31
  have bq32 := B1.cell b32
  have bq33 := B1.cell b33
  have bq34 := B1.cell b34
  have bq61 := B1.cell b61
  have bq62 := B1.cell b62
  have HB0 := hid B0
  have HB1 := hid B1
  have HP62 := hid a62
  have HQ62 := hid b62
  have hHT : decide (csm x y) = false := decide_eq_false (fun e => c_kp (e.2.2.2.2.2.2.1))
  rw [hHT]
  have t_kd : (x.kd == y.kd) = true := by simp only [beq_iff_eq]; exact c_kd
  have HEQE : Hid (∀ wx : World, (Op.equalIn 10000 29 (.agg (cmE x).toArray) (.agg (cmE y).toArray)).run Try.prog wx = .ok true wx) := hid (fun wx => by
    have e := eq_editC 9995 x.ek x.eid x.eg (x.em.toNat : Int) (x.el.toNat : Int) y.ek y.eid y.eg (y.em.toNat : Int) (y.el.toNat : Int) x.ef y.ef HHX.out.e8 HHY.out.e8 wx
    rwa [decide_eq_true (show (x.ek = y.ek ∧ x.eid = y.eid ∧ x.eg = y.eg ∧ ((x.em.toNat : Int) = (y.em.toNat : Int) ∧ (x.el.toNat : Int) = (y.el.toNat : Int) ∧ x.ef = y.ef)) from c_E)] at e)
  have t_dv : (x.dv == y.dv) = true := by simp only [beq_iff_eq]; exact c_dv
  have t_rq : (x.rq == y.rq) = true := by simp only [beq_iff_eq]; exact c_rq
  have t_id : (x.id == y.id) = true := by simp only [beq_iff_eq]; exact c_id
  have t_bs : (x.bs == y.bs) = true := by simp only [beq_iff_eq]; exact c_bs
  have t_kp : (x.kp == y.kp) = false := by simp only [beq_eq_false_iff_ne]; exact c_kp
  obtain ⟨xc, hxc⟩ : ∃ c, c = cmc x := ⟨_, rfl⟩
  obtain ⟨yc, hyc⟩ : ∃ c, c = cmc y := ⟨_, rfl⟩
  obtain ⟨xe, hxe⟩ : ∃ c, c = cmE x := ⟨_, rfl⟩
  obtain ⟨xp, hxp⟩ : ∃ c, c = cmP x := ⟨_, rfl⟩
  obtain ⟨ye, hye⟩ : ∃ c, c = cmE y := ⟨_, rfl⟩
  obtain ⟨yp, hyp⟩ : ∃ c, c = cmP y := ⟨_, rfl⟩
  rw [← hxc, ← hyc] at HB HB0 HB1 RP RP' RE RE' aq0 aq30 aq31 aq32 aq33 aq34 aq61 aq62 bq0 bq30 bq31 bq32 bq33 bq34 bq61 bq62 ⊢
  rw [← hxc] at HP62
  rw [← hyc] at HQ62
  rw [← hxe] at HEL HEQE RE
  rw [← hye] at HEL' HEQE RE'
  rw [← hxp] at HPL RP
  rw [← hyp] at HPL' RP'
  clear hxc hyc hxe hxp hye hyp a0 a30 a31 a32 a33 a34 a61 a62 b0 b30 b31 b32 b33 b34 b61 b62 B0 B1 hb h h' hHT hm c_kd c_E c_dv c_rq c_id c_bs c_kp
  go_enter Try.func10, Try.ntmps10
  dsimp only [List.append]
  go_wp2_with (first
    | (refine wpList_load_g (by rfl) 29 (.tmp 11) rfl w.heap.size 1 rfl xe _ RE hue rfl (by rw [HEL.out]; exact info_edit) ?_; simp only [pq4])
    | (refine wpList_load_g (by rfl) 29 (.tmp 13) rfl (w.heap.size + 1) 1 rfl ye _ RE' hue rfl (by rw [HEL'.out]; exact info_edit) ?_; simp only [pq4])
    | (refine wpList_exec (by rfl) (.bool true) (exec_eql 29 29 (.tmp 12) (.tmp 14) rfl xe.toArray ye.toArray rfl rfl (by kernel_rfl) true (HEQE.out _)) ?_; simp only [pq4])
    | fail)
  go_ret
  exact ⟨rfl, HB.out⟩
theorem rcsame_h (x y : Cm) (w : World) (h : okCm w x) (h' : okCm w y) (hm : x.n ≤ 65536) (c_kd : x.kd = y.kd) (c_E : ee x y) (c_dv : x.dv = y.dv) (c_rq : x.rq = y.rq) (c_id : x.id = y.id) (c_bs : x.bs = y.bs) (c_kp : x.kp = y.kp) (c_P : ¬ (pp2 x y)) :
    Calls Try.prog 10 #[.agg (cmc x).toArray, .agg (cmc y).toArray] w fun e w' => e = .returned (.bool (decide (csm x y))) ∧ Below w.heap.size w w' := by
  have hue := Try.underlying29
  have hup := Try.underlying27
  have HEL := hid (cmE_len h.e8)
  have HPL := hid (cmP_len h.p8)
  have HEL' := hid (cmE_len h'.e8)
  have HPL' := hid (cmP_len h'.p8)
  have HHX := hid h
  have HHY := hid h'
  have B0 := (Blk.new w (cmc x) 32).alloc (.cells (cmc y).toArray 32)
  have B1 := Blk.new (w.alloc (.cells (cmc x).toArray 32)) (cmc y) 32
  rw [show (w.alloc (.cells (cmc x).toArray 32)).heap.size = w.heap.size + 1 by simp] at B1
  have hb : Below w.heap.size w ((w.alloc (.cells (cmc x).toArray 32)).alloc (.cells (cmc y).toArray 32)) := (below_a1C _ _).alloc (below_a1C _ _).size _
  have HB := hid hb
  have RE := B0.range 1 (cmE x) (cm_edit h.e8 h.p8)
  have RP := B0.range 35 (cmP x) (cm_patch h.e8 h.p8)
  have RE' := B1.range 1 (cmE y) (cm_edit h'.e8 h'.p8)
  have RP' := B1.range 35 (cmP y) (cm_patch h'.e8 h'.p8)
  obtain ⟨a0, a30, a31, a32, a33, a34, a61, a62⟩ := cm_at h.e8 h.p8
  obtain ⟨b0, b30, b31, b32, b33, b34, b61, b62⟩ := cm_at h'.e8 h'.p8
  have aq0 := B0.cell a0
  have aq30 := B0.cell a30
  have aq31 := B0.cell a31
  have aq32 := B0.cell a32
  have aq33 := B0.cell a33
  have aq34 := B0.cell a34
  have aq61 := B0.cell a61
  have aq62 := B0.cell a62
  have bq0 := B1.cell b0
  have bq30 := B1.cell b30
  have bq31 := B1.cell b31
  have bq32 := B1.cell b32
  have bq33 := B1.cell b33
  have bq34 := B1.cell b34
  have bq61 := B1.cell b61
  have bq62 := B1.cell b62
  have HB0 := hid B0
  have HB1 := hid B1
  have HP62 := hid a62
  have HQ62 := hid b62
  have hHT : decide (csm x y) = false := decide_eq_false (fun e => c_P (e.2.2.2.2.2.2.2.1))
  rw [hHT]
  have t_kd : (x.kd == y.kd) = true := by simp only [beq_iff_eq]; exact c_kd
  have HEQE : Hid (∀ wx : World, (Op.equalIn 10000 29 (.agg (cmE x).toArray) (.agg (cmE y).toArray)).run Try.prog wx = .ok true wx) := hid (fun wx => by
    have e := eq_editC 9995 x.ek x.eid x.eg (x.em.toNat : Int) (x.el.toNat : Int) y.ek y.eid y.eg (y.em.toNat : Int) (y.el.toNat : Int) x.ef y.ef HHX.out.e8 HHY.out.e8 wx
    rwa [decide_eq_true (show (x.ek = y.ek ∧ x.eid = y.eid ∧ x.eg = y.eg ∧ ((x.em.toNat : Int) = (y.em.toNat : Int) ∧ (x.el.toNat : Int) = (y.el.toNat : Int) ∧ x.ef = y.ef)) from c_E)] at e)
  have t_dv : (x.dv == y.dv) = true := by simp only [beq_iff_eq]; exact c_dv
  have t_rq : (x.rq == y.rq) = true := by simp only [beq_iff_eq]; exact c_rq
  have t_id : (x.id == y.id) = true := by simp only [beq_iff_eq]; exact c_id
  have t_bs : (x.bs == y.bs) = true := by simp only [beq_iff_eq]; exact c_bs
  have t_kp : (x.kp == y.kp) = true := by simp only [beq_iff_eq]; exact c_kp
  have HEQP : Hid (∀ wx : World, (Op.equalIn 10000 27 (.agg (cmP x).toArray) (.agg (cmP y).toArray)).run Try.prog wx = .ok false wx) := hid (fun wx => by
    have e := eq_patch 9996 (x.pm.toNat : Int) (x.pl.toNat : Int) (y.pm.toNat : Int) (y.pl.toNat : Int) x.pf y.pf HHX.out.p8 HHY.out.p8 wx
    rwa [decide_eq_false (show ¬ ((x.pm.toNat : Int) = (y.pm.toNat : Int) ∧ (x.pl.toNat : Int) = (y.pl.toNat : Int) ∧ x.pf = y.pf) from c_P)] at e)
  obtain ⟨xc, hxc⟩ : ∃ c, c = cmc x := ⟨_, rfl⟩
  obtain ⟨yc, hyc⟩ : ∃ c, c = cmc y := ⟨_, rfl⟩
  obtain ⟨xe, hxe⟩ : ∃ c, c = cmE x := ⟨_, rfl⟩
  obtain ⟨xp, hxp⟩ : ∃ c, c = cmP x := ⟨_, rfl⟩
  obtain ⟨ye, hye⟩ : ∃ c, c = cmE y := ⟨_, rfl⟩
  obtain ⟨yp, hyp⟩ : ∃ c, c = cmP y := ⟨_, rfl⟩
  rw [← hxc, ← hyc] at HB HB0 HB1 RP RP' RE RE' aq0 aq30 aq31 aq32 aq33 aq34 aq61 aq62 bq0 bq30 bq31 bq32 bq33 bq34 bq61 bq62 ⊢
  rw [← hxc] at HP62
  rw [← hyc] at HQ62
  rw [← hxe] at HEL HEQE RE
  rw [← hye] at HEL' HEQE RE'
  rw [← hxp] at HPL HEQP RP
  rw [← hyp] at HPL' HEQP RP'
  clear hxc hyc hxe hxp hye hyp a0 a30 a31 a32 a33 a34 a61 a62 b0 b30 b31 b32 b33 b34 b61 b62 B0 B1 hb h h' hHT hm c_kd c_E c_dv c_rq c_id c_bs c_kp c_P
  go_enter Try.func10, Try.ntmps10
  dsimp only [List.append]
  go_wp2_with (first
    | (refine wpList_load_g (by rfl) 29 (.tmp 11) rfl w.heap.size 1 rfl xe _ RE hue rfl (by rw [HEL.out]; exact info_edit) ?_; simp only [pq4])
    | (refine wpList_load_g (by rfl) 29 (.tmp 13) rfl (w.heap.size + 1) 1 rfl ye _ RE' hue rfl (by rw [HEL'.out]; exact info_edit) ?_; simp only [pq4])
    | (refine wpList_exec (by rfl) (.bool true) (exec_eql 29 29 (.tmp 12) (.tmp 14) rfl xe.toArray ye.toArray rfl rfl (by kernel_rfl) true (HEQE.out _)) ?_; simp only [pq4])
    | (refine wpList_load_g (by rfl) 27 (.tmp 53) rfl w.heap.size 35 rfl xp _ RP hup rfl (by rw [HPL.out]; exact info_patch) ?_; simp only [pq4])
    | (refine wpList_load_g (by rfl) 27 (.tmp 55) rfl (w.heap.size + 1) 35 rfl yp _ RP' hup rfl (by rw [HPL'.out]; exact info_patch) ?_; simp only [pq4])
    | (refine wpList_exec (by rfl) (.bool false) (exec_eql 27 27 (.tmp 54) (.tmp 56) rfl xp.toArray yp.toArray rfl rfl (by kernel_rfl) false (HEQP.out _)) ?_; simp only [pq4])
    | fail)
  go_ret
  exact ⟨rfl, HB.out⟩
theorem rcsame_i (x y : Cm) (w : World) (h : okCm w x) (h' : okCm w y) (hm : x.n ≤ 65536) (c_kd : x.kd = y.kd) (c_E : ee x y) (c_dv : x.dv = y.dv) (c_rq : x.rq = y.rq) (c_id : x.id = y.id) (c_bs : x.bs = y.bs) (c_kp : x.kp = y.kp) (c_P : pp2 x y) (c_f : ¬ (x.f = y.f)) :
    Calls Try.prog 10 #[.agg (cmc x).toArray, .agg (cmc y).toArray] w fun e w' => e = .returned (.bool (decide (csm x y))) ∧ Below w.heap.size w w' := by
  have hue := Try.underlying29
  have hup := Try.underlying27
  have HEL := hid (cmE_len h.e8)
  have HPL := hid (cmP_len h.p8)
  have HEL' := hid (cmE_len h'.e8)
  have HPL' := hid (cmP_len h'.p8)
  have HHX := hid h
  have HHY := hid h'
  have B0 := (Blk.new w (cmc x) 32).alloc (.cells (cmc y).toArray 32)
  have B1 := Blk.new (w.alloc (.cells (cmc x).toArray 32)) (cmc y) 32
  rw [show (w.alloc (.cells (cmc x).toArray 32)).heap.size = w.heap.size + 1 by simp] at B1
  have hb : Below w.heap.size w ((w.alloc (.cells (cmc x).toArray 32)).alloc (.cells (cmc y).toArray 32)) := (below_a1C _ _).alloc (below_a1C _ _).size _
  have HB := hid hb
  have RE := B0.range 1 (cmE x) (cm_edit h.e8 h.p8)
  have RP := B0.range 35 (cmP x) (cm_patch h.e8 h.p8)
  have RE' := B1.range 1 (cmE y) (cm_edit h'.e8 h'.p8)
  have RP' := B1.range 35 (cmP y) (cm_patch h'.e8 h'.p8)
  obtain ⟨a0, a30, a31, a32, a33, a34, a61, a62⟩ := cm_at h.e8 h.p8
  obtain ⟨b0, b30, b31, b32, b33, b34, b61, b62⟩ := cm_at h'.e8 h'.p8
  have aq0 := B0.cell a0
  have aq30 := B0.cell a30
  have aq31 := B0.cell a31
  have aq32 := B0.cell a32
  have aq33 := B0.cell a33
  have aq34 := B0.cell a34
  have aq61 := B0.cell a61
  have aq62 := B0.cell a62
  have bq0 := B1.cell b0
  have bq30 := B1.cell b30
  have bq31 := B1.cell b31
  have bq32 := B1.cell b32
  have bq33 := B1.cell b33
  have bq34 := B1.cell b34
  have bq61 := B1.cell b61
  have bq62 := B1.cell b62
  have HB0 := hid B0
  have HB1 := hid B1
  have HP62 := hid a62
  have HQ62 := hid b62
  have hHT : decide (csm x y) = false := decide_eq_false (fun e => c_f (e.2.2.2.2.2.2.2.2.1))
  rw [hHT]
  have t_kd : (x.kd == y.kd) = true := by simp only [beq_iff_eq]; exact c_kd
  have HEQE : Hid (∀ wx : World, (Op.equalIn 10000 29 (.agg (cmE x).toArray) (.agg (cmE y).toArray)).run Try.prog wx = .ok true wx) := hid (fun wx => by
    have e := eq_editC 9995 x.ek x.eid x.eg (x.em.toNat : Int) (x.el.toNat : Int) y.ek y.eid y.eg (y.em.toNat : Int) (y.el.toNat : Int) x.ef y.ef HHX.out.e8 HHY.out.e8 wx
    rwa [decide_eq_true (show (x.ek = y.ek ∧ x.eid = y.eid ∧ x.eg = y.eg ∧ ((x.em.toNat : Int) = (y.em.toNat : Int) ∧ (x.el.toNat : Int) = (y.el.toNat : Int) ∧ x.ef = y.ef)) from c_E)] at e)
  have t_dv : (x.dv == y.dv) = true := by simp only [beq_iff_eq]; exact c_dv
  have t_rq : (x.rq == y.rq) = true := by simp only [beq_iff_eq]; exact c_rq
  have t_id : (x.id == y.id) = true := by simp only [beq_iff_eq]; exact c_id
  have t_bs : (x.bs == y.bs) = true := by simp only [beq_iff_eq]; exact c_bs
  have t_kp : (x.kp == y.kp) = true := by simp only [beq_iff_eq]; exact c_kp
  have HEQP : Hid (∀ wx : World, (Op.equalIn 10000 27 (.agg (cmP x).toArray) (.agg (cmP y).toArray)).run Try.prog wx = .ok true wx) := hid (fun wx => by
    have e := eq_patch 9996 (x.pm.toNat : Int) (x.pl.toNat : Int) (y.pm.toNat : Int) (y.pl.toNat : Int) x.pf y.pf HHX.out.p8 HHY.out.p8 wx
    rwa [decide_eq_true (show ((x.pm.toNat : Int) = (y.pm.toNat : Int) ∧ (x.pl.toNat : Int) = (y.pl.toNat : Int) ∧ x.pf = y.pf) from c_P)] at e)
  have HFC : Hid (∀ wx : World, Below w.heap.size w wx → Calls Try.prog 31 #[.slice x.A x.n x.c, .slice y.A y.n y.c] wx fun e w' => e = .returned (.bool false) ∧ Below wx.heap.size wx w') := hid (fun wx hb => by
    have e := rsame_any x.A x.n x.c x.f y.A y.n y.c y.f wx HHX.out.len HHY.out.len ((HHX.out.see.below hb).more hb.size) ((HHY.out.see.below hb).more hb.size) hm
    rwa [decide_eq_false c_f] at e)
  obtain ⟨xc, hxc⟩ : ∃ c, c = cmc x := ⟨_, rfl⟩
  obtain ⟨yc, hyc⟩ : ∃ c, c = cmc y := ⟨_, rfl⟩
  obtain ⟨xe, hxe⟩ : ∃ c, c = cmE x := ⟨_, rfl⟩
  obtain ⟨xp, hxp⟩ : ∃ c, c = cmP x := ⟨_, rfl⟩
  obtain ⟨ye, hye⟩ : ∃ c, c = cmE y := ⟨_, rfl⟩
  obtain ⟨yp, hyp⟩ : ∃ c, c = cmP y := ⟨_, rfl⟩
  rw [← hxc, ← hyc] at HB HB0 HB1 RP RP' RE RE' aq0 aq30 aq31 aq32 aq33 aq34 aq61 aq62 bq0 bq30 bq31 bq32 bq33 bq34 bq61 bq62 ⊢
  rw [← hxc] at HP62
  rw [← hyc] at HQ62
  rw [← hxe] at HEL HEQE RE
  rw [← hye] at HEL' HEQE RE'
  rw [← hxp] at HPL HEQP RP
  rw [← hyp] at HPL' HEQP RP'
  clear hxc hyc hxe hxp hye hyp a0 a30 a31 a32 a33 a34 a61 a62 b0 b30 b31 b32 b33 b34 b61 b62 B0 B1 hb h h' hHT hm c_kd c_E c_dv c_rq c_id c_bs c_kp c_P c_f
  go_enter Try.func10, Try.ntmps10
  dsimp only [List.append]
  go_wp2_with (first
    | (refine wpList_load_g (by rfl) 29 (.tmp 11) rfl w.heap.size 1 rfl xe _ RE hue rfl (by rw [HEL.out]; exact info_edit) ?_; simp only [pq4])
    | (refine wpList_load_g (by rfl) 29 (.tmp 13) rfl (w.heap.size + 1) 1 rfl ye _ RE' hue rfl (by rw [HEL'.out]; exact info_edit) ?_; simp only [pq4])
    | (refine wpList_exec (by rfl) (.bool true) (exec_eql 29 29 (.tmp 12) (.tmp 14) rfl xe.toArray ye.toArray rfl rfl (by kernel_rfl) true (HEQE.out _)) ?_; simp only [pq4])
    | (refine wpList_load_g (by rfl) 27 (.tmp 53) rfl w.heap.size 35 rfl xp _ RP hup rfl (by rw [HPL.out]; exact info_patch) ?_; simp only [pq4])
    | (refine wpList_load_g (by rfl) 27 (.tmp 55) rfl (w.heap.size + 1) 35 rfl yp _ RP' hup rfl (by rw [HPL'.out]; exact info_patch) ?_; simp only [pq4])
    | (refine wpList_exec (by rfl) (.bool true) (exec_eql 27 27 (.tmp 54) (.tmp 56) rfl xp.toArray yp.toArray rfl rfl (by kernel_rfl) true (HEQP.out _)) ?_; simp only [pq4])
    | fail)
  refine (HFC.out _ HB.out).mono ?_
  rintro e w3 ⟨rfl, hb3⟩
  have HBE := hid (HB.out.trans (hb3.mono HB.out.size))
  have r62 := (HB0.out.later hb3).cell HP62.out
  have s62 := (HB1.out.later hb3).cell HQ62.out
  clear hb3 aq0 aq30 aq31 aq32 aq33 aq34 aq61 aq62 bq0 bq30 bq31 bq32 bq33 bq34 bq61 bq62 RP RP' RE RE'
  go_wp2_with fail
  go_ret
  exact ⟨rfl, HBE.out⟩
theorem rcsame_j (x y : Cm) (w : World) (h : okCm w x) (h' : okCm w y) (hm : x.n ≤ 65536) (c_kd : x.kd = y.kd) (c_E : ee x y) (c_dv : x.dv = y.dv) (c_rq : x.rq = y.rq) (c_id : x.id = y.id) (c_bs : x.bs = y.bs) (c_kp : x.kp = y.kp) (c_P : pp2 x y) (c_f : x.f = y.f) (c_ms : ¬ ((x.ms.toNat : Int) = (y.ms.toNat : Int))) :
    Calls Try.prog 10 #[.agg (cmc x).toArray, .agg (cmc y).toArray] w fun e w' => e = .returned (.bool (decide (csm x y))) ∧ Below w.heap.size w w' := by
  have hue := Try.underlying29
  have hup := Try.underlying27
  have HEL := hid (cmE_len h.e8)
  have HPL := hid (cmP_len h.p8)
  have HEL' := hid (cmE_len h'.e8)
  have HPL' := hid (cmP_len h'.p8)
  have HHX := hid h
  have HHY := hid h'
  have B0 := (Blk.new w (cmc x) 32).alloc (.cells (cmc y).toArray 32)
  have B1 := Blk.new (w.alloc (.cells (cmc x).toArray 32)) (cmc y) 32
  rw [show (w.alloc (.cells (cmc x).toArray 32)).heap.size = w.heap.size + 1 by simp] at B1
  have hb : Below w.heap.size w ((w.alloc (.cells (cmc x).toArray 32)).alloc (.cells (cmc y).toArray 32)) := (below_a1C _ _).alloc (below_a1C _ _).size _
  have HB := hid hb
  have RE := B0.range 1 (cmE x) (cm_edit h.e8 h.p8)
  have RP := B0.range 35 (cmP x) (cm_patch h.e8 h.p8)
  have RE' := B1.range 1 (cmE y) (cm_edit h'.e8 h'.p8)
  have RP' := B1.range 35 (cmP y) (cm_patch h'.e8 h'.p8)
  obtain ⟨a0, a30, a31, a32, a33, a34, a61, a62⟩ := cm_at h.e8 h.p8
  obtain ⟨b0, b30, b31, b32, b33, b34, b61, b62⟩ := cm_at h'.e8 h'.p8
  have aq0 := B0.cell a0
  have aq30 := B0.cell a30
  have aq31 := B0.cell a31
  have aq32 := B0.cell a32
  have aq33 := B0.cell a33
  have aq34 := B0.cell a34
  have aq61 := B0.cell a61
  have aq62 := B0.cell a62
  have bq0 := B1.cell b0
  have bq30 := B1.cell b30
  have bq31 := B1.cell b31
  have bq32 := B1.cell b32
  have bq33 := B1.cell b33
  have bq34 := B1.cell b34
  have bq61 := B1.cell b61
  have bq62 := B1.cell b62
  have HB0 := hid B0
  have HB1 := hid B1
  have HP62 := hid a62
  have HQ62 := hid b62
  have hHT : decide (csm x y) = false := decide_eq_false (fun e => c_ms (e.2.2.2.2.2.2.2.2.2))
  rw [hHT]
  have t_kd : (x.kd == y.kd) = true := by simp only [beq_iff_eq]; exact c_kd
  have HEQE : Hid (∀ wx : World, (Op.equalIn 10000 29 (.agg (cmE x).toArray) (.agg (cmE y).toArray)).run Try.prog wx = .ok true wx) := hid (fun wx => by
    have e := eq_editC 9995 x.ek x.eid x.eg (x.em.toNat : Int) (x.el.toNat : Int) y.ek y.eid y.eg (y.em.toNat : Int) (y.el.toNat : Int) x.ef y.ef HHX.out.e8 HHY.out.e8 wx
    rwa [decide_eq_true (show (x.ek = y.ek ∧ x.eid = y.eid ∧ x.eg = y.eg ∧ ((x.em.toNat : Int) = (y.em.toNat : Int) ∧ (x.el.toNat : Int) = (y.el.toNat : Int) ∧ x.ef = y.ef)) from c_E)] at e)
  have t_dv : (x.dv == y.dv) = true := by simp only [beq_iff_eq]; exact c_dv
  have t_rq : (x.rq == y.rq) = true := by simp only [beq_iff_eq]; exact c_rq
  have t_id : (x.id == y.id) = true := by simp only [beq_iff_eq]; exact c_id
  have t_bs : (x.bs == y.bs) = true := by simp only [beq_iff_eq]; exact c_bs
  have t_kp : (x.kp == y.kp) = true := by simp only [beq_iff_eq]; exact c_kp
  have HEQP : Hid (∀ wx : World, (Op.equalIn 10000 27 (.agg (cmP x).toArray) (.agg (cmP y).toArray)).run Try.prog wx = .ok true wx) := hid (fun wx => by
    have e := eq_patch 9996 (x.pm.toNat : Int) (x.pl.toNat : Int) (y.pm.toNat : Int) (y.pl.toNat : Int) x.pf y.pf HHX.out.p8 HHY.out.p8 wx
    rwa [decide_eq_true (show ((x.pm.toNat : Int) = (y.pm.toNat : Int) ∧ (x.pl.toNat : Int) = (y.pl.toNat : Int) ∧ x.pf = y.pf) from c_P)] at e)
  have HFC : Hid (∀ wx : World, Below w.heap.size w wx → Calls Try.prog 31 #[.slice x.A x.n x.c, .slice y.A y.n y.c] wx fun e w' => e = .returned (.bool true) ∧ Below wx.heap.size wx w') := hid (fun wx hb => by
    have e := rsame_any x.A x.n x.c x.f y.A y.n y.c y.f wx HHX.out.len HHY.out.len ((HHX.out.see.below hb).more hb.size) ((HHY.out.see.below hb).more hb.size) hm
    rwa [decide_eq_true c_f] at e)
  have t_ms : ((x.ms.toNat : Int) == (y.ms.toNat : Int)) = false := by simp only [beq_eq_false_iff_ne]; exact c_ms
  obtain ⟨xc, hxc⟩ : ∃ c, c = cmc x := ⟨_, rfl⟩
  obtain ⟨yc, hyc⟩ : ∃ c, c = cmc y := ⟨_, rfl⟩
  obtain ⟨xe, hxe⟩ : ∃ c, c = cmE x := ⟨_, rfl⟩
  obtain ⟨xp, hxp⟩ : ∃ c, c = cmP x := ⟨_, rfl⟩
  obtain ⟨ye, hye⟩ : ∃ c, c = cmE y := ⟨_, rfl⟩
  obtain ⟨yp, hyp⟩ : ∃ c, c = cmP y := ⟨_, rfl⟩
  rw [← hxc, ← hyc] at HB HB0 HB1 RP RP' RE RE' aq0 aq30 aq31 aq32 aq33 aq34 aq61 aq62 bq0 bq30 bq31 bq32 bq33 bq34 bq61 bq62 ⊢
  rw [← hxc] at HP62
  rw [← hyc] at HQ62
  rw [← hxe] at HEL HEQE RE
  rw [← hye] at HEL' HEQE RE'
  rw [← hxp] at HPL HEQP RP
  rw [← hyp] at HPL' HEQP RP'
  clear hxc hyc hxe hxp hye hyp a0 a30 a31 a32 a33 a34 a61 a62 b0 b30 b31 b32 b33 b34 b61 b62 B0 B1 hb h h' hHT hm c_kd c_E c_dv c_rq c_id c_bs c_kp c_P c_f c_ms
  go_enter Try.func10, Try.ntmps10
  dsimp only [List.append]
  go_wp2_with (first
    | (refine wpList_load_g (by rfl) 29 (.tmp 11) rfl w.heap.size 1 rfl xe _ RE hue rfl (by rw [HEL.out]; exact info_edit) ?_; simp only [pq4])
    | (refine wpList_load_g (by rfl) 29 (.tmp 13) rfl (w.heap.size + 1) 1 rfl ye _ RE' hue rfl (by rw [HEL'.out]; exact info_edit) ?_; simp only [pq4])
    | (refine wpList_exec (by rfl) (.bool true) (exec_eql 29 29 (.tmp 12) (.tmp 14) rfl xe.toArray ye.toArray rfl rfl (by kernel_rfl) true (HEQE.out _)) ?_; simp only [pq4])
    | (refine wpList_load_g (by rfl) 27 (.tmp 53) rfl w.heap.size 35 rfl xp _ RP hup rfl (by rw [HPL.out]; exact info_patch) ?_; simp only [pq4])
    | (refine wpList_load_g (by rfl) 27 (.tmp 55) rfl (w.heap.size + 1) 35 rfl yp _ RP' hup rfl (by rw [HPL'.out]; exact info_patch) ?_; simp only [pq4])
    | (refine wpList_exec (by rfl) (.bool true) (exec_eql 27 27 (.tmp 54) (.tmp 56) rfl xp.toArray yp.toArray rfl rfl (by kernel_rfl) true (HEQP.out _)) ?_; simp only [pq4])
    | fail)
  refine (HFC.out _ HB.out).mono ?_
  rintro e w3 ⟨rfl, hb3⟩
  have HBE := hid (HB.out.trans (hb3.mono HB.out.size))
  have r62 := (HB0.out.later hb3).cell HP62.out
  have s62 := (HB1.out.later hb3).cell HQ62.out
  clear hb3 aq0 aq30 aq31 aq32 aq33 aq34 aq61 aq62 bq0 bq30 bq31 bq32 bq33 bq34 bq61 bq62 RP RP' RE RE'
  go_wp2_with fail
  go_ret
  exact ⟨rfl, HBE.out⟩
theorem rcsame_k (x y : Cm) (w : World) (h : okCm w x) (h' : okCm w y) (hm : x.n ≤ 65536) (c_kd : x.kd = y.kd) (c_E : ee x y) (c_dv : x.dv = y.dv) (c_rq : x.rq = y.rq) (c_id : x.id = y.id) (c_bs : x.bs = y.bs) (c_kp : x.kp = y.kp) (c_P : pp2 x y) (c_f : x.f = y.f) (c_ms : (x.ms.toNat : Int) = (y.ms.toNat : Int)) :
    Calls Try.prog 10 #[.agg (cmc x).toArray, .agg (cmc y).toArray] w fun e w' => e = .returned (.bool (decide (csm x y))) ∧ Below w.heap.size w w' := by
  have hue := Try.underlying29
  have hup := Try.underlying27
  have HEL := hid (cmE_len h.e8)
  have HPL := hid (cmP_len h.p8)
  have HEL' := hid (cmE_len h'.e8)
  have HPL' := hid (cmP_len h'.p8)
  have HHX := hid h
  have HHY := hid h'
  have B0 := (Blk.new w (cmc x) 32).alloc (.cells (cmc y).toArray 32)
  have B1 := Blk.new (w.alloc (.cells (cmc x).toArray 32)) (cmc y) 32
  rw [show (w.alloc (.cells (cmc x).toArray 32)).heap.size = w.heap.size + 1 by simp] at B1
  have hb : Below w.heap.size w ((w.alloc (.cells (cmc x).toArray 32)).alloc (.cells (cmc y).toArray 32)) := (below_a1C _ _).alloc (below_a1C _ _).size _
  have HB := hid hb
  have RE := B0.range 1 (cmE x) (cm_edit h.e8 h.p8)
  have RP := B0.range 35 (cmP x) (cm_patch h.e8 h.p8)
  have RE' := B1.range 1 (cmE y) (cm_edit h'.e8 h'.p8)
  have RP' := B1.range 35 (cmP y) (cm_patch h'.e8 h'.p8)
  obtain ⟨a0, a30, a31, a32, a33, a34, a61, a62⟩ := cm_at h.e8 h.p8
  obtain ⟨b0, b30, b31, b32, b33, b34, b61, b62⟩ := cm_at h'.e8 h'.p8
  have aq0 := B0.cell a0
  have aq30 := B0.cell a30
  have aq31 := B0.cell a31
  have aq32 := B0.cell a32
  have aq33 := B0.cell a33
  have aq34 := B0.cell a34
  have aq61 := B0.cell a61
  have aq62 := B0.cell a62
  have bq0 := B1.cell b0
  have bq30 := B1.cell b30
  have bq31 := B1.cell b31
  have bq32 := B1.cell b32
  have bq33 := B1.cell b33
  have bq34 := B1.cell b34
  have bq61 := B1.cell b61
  have bq62 := B1.cell b62
  have HB0 := hid B0
  have HB1 := hid B1
  have HP62 := hid a62
  have HQ62 := hid b62
  have hHT : decide (csm x y) = true := decide_eq_true ⟨c_kd, c_E, c_dv, c_rq, c_id, c_bs, c_kp, c_P, c_f, c_ms⟩
  rw [hHT]
  have t_kd : (x.kd == y.kd) = true := by simp only [beq_iff_eq]; exact c_kd
  have HEQE : Hid (∀ wx : World, (Op.equalIn 10000 29 (.agg (cmE x).toArray) (.agg (cmE y).toArray)).run Try.prog wx = .ok true wx) := hid (fun wx => by
    have e := eq_editC 9995 x.ek x.eid x.eg (x.em.toNat : Int) (x.el.toNat : Int) y.ek y.eid y.eg (y.em.toNat : Int) (y.el.toNat : Int) x.ef y.ef HHX.out.e8 HHY.out.e8 wx
    rwa [decide_eq_true (show (x.ek = y.ek ∧ x.eid = y.eid ∧ x.eg = y.eg ∧ ((x.em.toNat : Int) = (y.em.toNat : Int) ∧ (x.el.toNat : Int) = (y.el.toNat : Int) ∧ x.ef = y.ef)) from c_E)] at e)
  have t_dv : (x.dv == y.dv) = true := by simp only [beq_iff_eq]; exact c_dv
  have t_rq : (x.rq == y.rq) = true := by simp only [beq_iff_eq]; exact c_rq
  have t_id : (x.id == y.id) = true := by simp only [beq_iff_eq]; exact c_id
  have t_bs : (x.bs == y.bs) = true := by simp only [beq_iff_eq]; exact c_bs
  have t_kp : (x.kp == y.kp) = true := by simp only [beq_iff_eq]; exact c_kp
  have HEQP : Hid (∀ wx : World, (Op.equalIn 10000 27 (.agg (cmP x).toArray) (.agg (cmP y).toArray)).run Try.prog wx = .ok true wx) := hid (fun wx => by
    have e := eq_patch 9996 (x.pm.toNat : Int) (x.pl.toNat : Int) (y.pm.toNat : Int) (y.pl.toNat : Int) x.pf y.pf HHX.out.p8 HHY.out.p8 wx
    rwa [decide_eq_true (show ((x.pm.toNat : Int) = (y.pm.toNat : Int) ∧ (x.pl.toNat : Int) = (y.pl.toNat : Int) ∧ x.pf = y.pf) from c_P)] at e)
  have HFC : Hid (∀ wx : World, Below w.heap.size w wx → Calls Try.prog 31 #[.slice x.A x.n x.c, .slice y.A y.n y.c] wx fun e w' => e = .returned (.bool true) ∧ Below wx.heap.size wx w') := hid (fun wx hb => by
    have e := rsame_any x.A x.n x.c x.f y.A y.n y.c y.f wx HHX.out.len HHY.out.len ((HHX.out.see.below hb).more hb.size) ((HHY.out.see.below hb).more hb.size) hm
    rwa [decide_eq_true c_f] at e)
  have t_ms : ((x.ms.toNat : Int) == (y.ms.toNat : Int)) = true := by simp only [beq_iff_eq]; exact c_ms
  obtain ⟨xc, hxc⟩ : ∃ c, c = cmc x := ⟨_, rfl⟩
  obtain ⟨yc, hyc⟩ : ∃ c, c = cmc y := ⟨_, rfl⟩
  obtain ⟨xe, hxe⟩ : ∃ c, c = cmE x := ⟨_, rfl⟩
  obtain ⟨xp, hxp⟩ : ∃ c, c = cmP x := ⟨_, rfl⟩
  obtain ⟨ye, hye⟩ : ∃ c, c = cmE y := ⟨_, rfl⟩
  obtain ⟨yp, hyp⟩ : ∃ c, c = cmP y := ⟨_, rfl⟩
  rw [← hxc, ← hyc] at HB HB0 HB1 RP RP' RE RE' aq0 aq30 aq31 aq32 aq33 aq34 aq61 aq62 bq0 bq30 bq31 bq32 bq33 bq34 bq61 bq62 ⊢
  rw [← hxc] at HP62
  rw [← hyc] at HQ62
  rw [← hxe] at HEL HEQE RE
  rw [← hye] at HEL' HEQE RE'
  rw [← hxp] at HPL HEQP RP
  rw [← hyp] at HPL' HEQP RP'
  clear hxc hyc hxe hxp hye hyp a0 a30 a31 a32 a33 a34 a61 a62 b0 b30 b31 b32 b33 b34 b61 b62 B0 B1 hb h h' hHT hm c_kd c_E c_dv c_rq c_id c_bs c_kp c_P c_f c_ms
  go_enter Try.func10, Try.ntmps10
  dsimp only [List.append]
  go_wp2_with (first
    | (refine wpList_load_g (by rfl) 29 (.tmp 11) rfl w.heap.size 1 rfl xe _ RE hue rfl (by rw [HEL.out]; exact info_edit) ?_; simp only [pq4])
    | (refine wpList_load_g (by rfl) 29 (.tmp 13) rfl (w.heap.size + 1) 1 rfl ye _ RE' hue rfl (by rw [HEL'.out]; exact info_edit) ?_; simp only [pq4])
    | (refine wpList_exec (by rfl) (.bool true) (exec_eql 29 29 (.tmp 12) (.tmp 14) rfl xe.toArray ye.toArray rfl rfl (by kernel_rfl) true (HEQE.out _)) ?_; simp only [pq4])
    | (refine wpList_load_g (by rfl) 27 (.tmp 53) rfl w.heap.size 35 rfl xp _ RP hup rfl (by rw [HPL.out]; exact info_patch) ?_; simp only [pq4])
    | (refine wpList_load_g (by rfl) 27 (.tmp 55) rfl (w.heap.size + 1) 35 rfl yp _ RP' hup rfl (by rw [HPL'.out]; exact info_patch) ?_; simp only [pq4])
    | (refine wpList_exec (by rfl) (.bool true) (exec_eql 27 27 (.tmp 54) (.tmp 56) rfl xp.toArray yp.toArray rfl rfl (by kernel_rfl) true (HEQP.out _)) ?_; simp only [pq4])
    | fail)
  refine (HFC.out _ HB.out).mono ?_
  rintro e w3 ⟨rfl, hb3⟩
  have HBE := hid (HB.out.trans (hb3.mono HB.out.size))
  have r62 := (HB0.out.later hb3).cell HP62.out
  have s62 := (HB1.out.later hb3).cell HQ62.out
  clear hb3 aq0 aq30 aq31 aq32 aq33 aq34 aq61 aq62 bq0 bq30 bq31 bq32 bq33 bq34 bq61 bq62 RP RP' RE RE'
  go_wp2_with fail
  go_ret
  exact ⟨rfl, HBE.out⟩
theorem rcsame_any (x y : Cm) (w : World) (h : okCm w x) (h' : okCm w y) (hm : x.n ≤ 65536) :
    Calls Try.prog 10 #[.agg (cmc x).toArray, .agg (cmc y).toArray] w fun e w' => e = .returned (.bool (decide (csm x y))) ∧ Below w.heap.size w w' := by
  by_cases c_kd : x.kd = y.kd
  case neg => exact rcsame_a x y w h h' hm c_kd
  by_cases c_E : ee x y
  case neg => exact rcsame_b x y w h h' hm c_kd c_E
  by_cases c_dv : x.dv = y.dv
  case neg => exact rcsame_c x y w h h' hm c_kd c_E c_dv
  by_cases c_rq : x.rq = y.rq
  case neg => exact rcsame_d x y w h h' hm c_kd c_E c_dv c_rq
  by_cases c_id : x.id = y.id
  case neg => exact rcsame_e x y w h h' hm c_kd c_E c_dv c_rq c_id
  by_cases c_bs : x.bs = y.bs
  case neg => exact rcsame_f x y w h h' hm c_kd c_E c_dv c_rq c_id c_bs
  by_cases c_kp : x.kp = y.kp
  case neg => exact rcsame_g x y w h h' hm c_kd c_E c_dv c_rq c_id c_bs c_kp
  by_cases c_P : pp2 x y
  case neg => exact rcsame_h x y w h h' hm c_kd c_E c_dv c_rq c_id c_bs c_kp c_P
  by_cases c_f : x.f = y.f
  case neg => exact rcsame_i x y w h h' hm c_kd c_E c_dv c_rq c_id c_bs c_kp c_P c_f
  by_cases c_ms : (x.ms.toNat : Int) = (y.ms.toNat : Int)
  case neg => exact rcsame_j x y w h h' hm c_kd c_E c_dv c_rq c_id c_bs c_kp c_P c_f c_ms
  exact rcsame_k x y w h h' hm c_kd c_E c_dv c_rq c_id c_bs c_kp c_P c_f c_ms
end Go.Proofs.Ytnhcjadkbogioaa
