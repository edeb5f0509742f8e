/- Commands: which may be, by the document: 2, b. -/
import Derived.Test.YtnhcjadkbogioaaK18
import Derived.Test.YtnhcjadkbogioaaK19
import Derived.WalkKit
import Derived.WalkLawsBesides
import Derived.Lib.IndexMore
namespace Go.Proofs.Ytnhcjadkbogioaa
set_option linter.unusedVariables false
set_option linter.unusedSimpArgs false
open Go Go.RowKit OctM

set_option maxRecDepth 100000 in
set_option maxHeartbeats 6400000 in
theorem rccheck_2b (x : Cm) (w : World) (h : okCm w x) (hk : x.kd = 2) (hg : 0 ≤ x.dv) (hl : x.dv < 6) (r1 : 1 ≤ x.rq) (r2 : x.rq ≤ 1099511627776) (z : cz (y2 x)) (i1 : ¬ (1 ≤ x.id)) :
    Calls Try.prog 15 #[.agg (cmc x).toArray] w fun e w' => e = .returned (.bool (decide (cok x))) ∧ Below w.heap.size w w' := by
  have hue := Try.underlying29
  have hup := Try.underlying27
  have huc := Try.underlying32
  obtain ⟨hs1, hth⟩ := CkSt.new w x h.e8 h.p8
  have B0 := Blk.new w (cmc x) 32
  have RG0 := B0.range 0 (cmc x) (by rw [List.drop_zero, List.take_length])
  have honc := all_oneCell_toArray (cmc_one x)
  have HLC := Lib.hid (cmc_len h.e8 h.p8)
  have HPX := Lib.hid (cm_at h.e8 h.p8)
  obtain ⟨xc, hxc⟩ : ∃ c, c = cmc x := ⟨_, rfl⟩
  obtain ⟨W1, hW1⟩ : ∃ W1, W1 = ((w.alloc (.cells (cmc x).toArray 32)).alloc (.cells #[.int .i64 0, .int .i64 0, .int .i64 0, .int .i64 0, .int .u32 0, .int .u32 0, .int .i64 0, .int .i64 0, .string ⟨#[]⟩, .int .i64 0, .int .i64 0, .string ⟨#[]⟩, .int .i64 0, .int .i64 0, .string ⟨#[]⟩, .int .i64 0, .int .i64 0, .string ⟨#[]⟩, .int .i64 0, .int .i64 0, .string ⟨#[]⟩, .int .i64 0, .int .i64 0, .string ⟨#[]⟩, .int .i64 0, .int .i64 0, .string ⟨#[]⟩, .int .i64 0, .int .i64 0, .string ⟨#[]⟩, .int .i64 0, .int .i64 0, .int .i64 0, .int .i64 0, .int .i64 0, .int .u32 0, .int .u32 0, .int .i64 0, .int .i64 0, .string ⟨#[]⟩, .int .i64 0, .int .i64 0, .string ⟨#[]⟩, .int .i64 0, .int .i64 0, .string ⟨#[]⟩, .int .i64 0, .int .i64 0, .string ⟨#[]⟩, .int .i64 0, .int .i64 0, .string ⟨#[]⟩, .int .i64 0, .int .i64 0, .string ⟨#[]⟩, .int .i64 0, .int .i64 0, .string ⟨#[]⟩, .int .i64 0, .int .i64 0, .string ⟨#[]⟩, .slice none 0 0, .int .u32 0] 32)).setCells (w.heap.size + 1) 0 (cmc x) := ⟨_, rfl⟩
  rw [← hW1] at hs1
  rw [← hxc] at hW1 RG0 honc HLC hth ⊢
  have HS1 := Lib.hid hs1
  have HW1 := Lib.hid hW1
  have HON := Lib.hid honc
  have TH1 := hth
  obtain ⟨R, hR⟩ : ∃ R, R = decide (cok x) := ⟨_, rfl⟩
  rw [← hR]
  have HR := Lib.hid hR
  have e1 : (x.kd == 1) = false := by rw [hk]; rfl
  have e5 : (x.kd == 5) = false := by rw [hk]; rfl
  have e2 : (x.kd == 2) = true := by rw [hk]; rfl
  have e3 : (x.kd == 3) = false := by rw [hk]; rfl
  have e4 : (x.kd == 4) = false := by rw [hk]; rfl
  have ka_kd := HS1.out.a.cell HPX.out.1
  clear hs1 hth hxc hW1 honc hR B0
  have S2 := HS1.out.set 30 (.int .i64 0) (cm_sets HS1.out.y1 HS1.out.y2 0 0#32).2.1 HS1.out.y1 HS1.out.y2
  have S2 : CkSt w x _ (W1.setCell ⟨w.heap.size + 1, 30, none⟩ (.int .i64 0)) := S2
  obtain ⟨W2, hW2⟩ : ∃ W, W = W1.setCell ⟨w.heap.size + 1, 30, none⟩ (.int .i64 0) := ⟨_, rfl⟩
  rw [← hW2] at S2
  have C30 := Lib.hid (HS1.out.b.cell (cm_at HS1.out.y1 HS1.out.y2).2.1)
  have F30 := Lib.hid (HS1.out.b.frozen 30)
  have HW2 := Lib.hid hW2
  have S2 := Lib.hid S2
  clear hW2
  have S3 := S2.out.set 31 (.int .i64 0) (cm_sets S2.out.y1 S2.out.y2 0 0#32).2.2.1 S2.out.y1 S2.out.y2
  have S3 : CkSt w x _ (W2.setCell ⟨w.heap.size + 1, 31, none⟩ (.int .i64 0)) := S3
  obtain ⟨W3, hW3⟩ : ∃ W, W = W2.setCell ⟨w.heap.size + 1, 31, none⟩ (.int .i64 0) := ⟨_, rfl⟩
  rw [← hW3] at S3
  have C31 := Lib.hid (S2.out.b.cell (cm_at S2.out.y1 S2.out.y2).2.2.1)
  have F31 := Lib.hid (S2.out.b.frozen 31)
  have HW3 := Lib.hid hW3
  have S3 := Lib.hid S3
  clear hW3
  have kc_kd := S3.out.a.cell HPX.out.1
  have kc_30 := S3.out.a.cell HPX.out.2.1
  have kc_31 := S3.out.a.cell HPX.out.2.2.1
  have S4 := S3.out.set 32 (.int .i64 0) (cm_sets S3.out.y1 S3.out.y2 0 0#32).2.2.2.1 S3.out.y1 S3.out.y2
  have S4 : CkSt w x _ (W3.setCell ⟨w.heap.size + 1, 32, none⟩ (.int .i64 0)) := S4
  obtain ⟨W4, hW4⟩ : ∃ W, W = W3.setCell ⟨w.heap.size + 1, 32, none⟩ (.int .i64 0) := ⟨_, rfl⟩
  rw [← hW4] at S4
  have C32 := Lib.hid (S3.out.b.cell (cm_at S3.out.y1 S3.out.y2).2.2.2.1)
  have F32 := Lib.hid (S3.out.b.frozen 32)
  have HW4 := Lib.hid hW4
  have S4 := Lib.hid S4
  clear hW4
  have S5 := S4.out.set 33 (.int .i64 0) (cm_sets S4.out.y1 S4.out.y2 0 0#32).2.2.2.2.1 S4.out.y1 S4.out.y2
  have S5 : CkSt w x _ (W4.setCell ⟨w.heap.size + 1, 33, none⟩ (.int .i64 0)) := S5
  obtain ⟨W5, hW5⟩ : ∃ W, W = W4.setCell ⟨w.heap.size + 1, 33, none⟩ (.int .i64 0) := ⟨_, rfl⟩
  rw [← hW5] at S5
  have C33 := Lib.hid (S4.out.b.cell (cm_at S4.out.y1 S4.out.y2).2.2.2.2.1)
  have F33 := Lib.hid (S4.out.b.frozen 33)
  have HW5 := Lib.hid hW5
  have S5 := Lib.hid S5
  clear hW5
  have hs6 := S5.out.setP
  have THP := S5.out.b.there 35 26 (by rw [cmc_len S5.out.y1 S5.out.y2]; omega)
  obtain ⟨W6, hW6⟩ : ∃ W, W = W5.setCells (w.heap.size + 1) 35 (pcells 0 0 zeros) := ⟨_, rfl⟩
  rw [← hW6] at hs6
  have hs6 : CkSt w x (q2 x) W6 := hs6
  have HS6 := Lib.hid hs6
  have HW6 := Lib.hid hW6
  have HONP := Lib.hid (all_oneCell_toArray (pcells_one 0 0 zeros))
  clear hs6 hW6
  have hzz := rczero_any (q2 x) W6 ⟨HS6.out.y1, HS6.out.y2, h.len, h.cap, h.max, ((h.see.below HS6.out.be).more HS6.out.be.size)⟩
  have RGZ := HS6.out.b.range 0 (cmc (q2 x)) (by rw [List.drop_zero, List.take_length])
  have HLZ := Lib.hid (cmc_len HS6.out.y1 HS6.out.y2)
  rw [decide_eq_true (show cz (q2 x) from z)] at hzz
  obtain ⟨yc, hyc⟩ : ∃ c, c = cmc (q2 x) := ⟨_, rfl⟩
  rw [← hyc] at hzz RGZ HLZ
  have HZZ := Lib.hid hzz
  clear hzz hyc
  have q_hg : decide (x.dv < 0) = false := decide_eq_false (by omega)
  have q_hl : decide (6 ≤ x.dv) = false := decide_eq_false (by omega)
  have q_r1 : decide (x.rq < 1) = false := decide_eq_false (by omega)
  have q_r2 : decide (1099511627776 < x.rq) = false := decide_eq_false (by omega)
  have q_i1 : decide (1 ≤ x.id) = false := decide_eq_false (by omega)
  have hHT : R = false := by rw [HR.out]; exact decide_eq_false (fun k => i1 ((cok_2 hk).1 k).2.2.1.1)
  have HT := Lib.hid hHT
  clear hHT
  clear hk
  go_enter Try.func15, Try.ntmps15
  go_wp2_with (first
    | (refine wpList_load_mid rfl 32 (.tmp 1) rfl w.heap.size 0 rfl xc _ RG0 huc rfl (by rw [HLC.out]; exact info_cm) ?_
       simp only [Act.put, List.setIfInBounds_toArray, List.set_cons_zero, List.set_cons_succ])
    | (refine wpList_store_asC rfl 32 (.tmp 3) (.tmp 4) rfl (w.heap.size + 1) 0 xc.toArray rfl rfl (by simpa [HLC.out] using TH1) (by simpa [HLC.out] using info_cm) HON.out W1 HW1.out ?_)
    | (refine wpList_store_i rfl 3 (.tmp 34) (.const (.int .i64 0)) rfl (w.heap.size + 1) 30 .i64 0 rfl rfl _ info_i C30.out F30.out W2 HW2.out ?_)
    | (refine wpList_store_i rfl 3 (.tmp 35) (.const (.int .i64 0)) rfl (w.heap.size + 1) 31 .i64 0 rfl rfl _ info_i C31.out F31.out W3 HW3.out ?_)
    | (refine wpList_store_i rfl 3 (.tmp 58) (.const (.int .i64 0)) rfl (w.heap.size + 1) 32 .i64 0 rfl rfl _ info_i C32.out F32.out W4 HW4.out ?_)
    | (refine wpList_store_i rfl 3 (.tmp 59) (.const (.int .i64 0)) rfl (w.heap.size + 1) 33 .i64 0 rfl rfl _ info_i C33.out F33.out W5 HW5.out ?_)
    | (refine wpList_store_asC rfl 27 (.tmp 61) (.tmp 60) rfl (w.heap.size + 1) 35 (pcells 0 0 zeros).toArray rfl rfl THP info_patch HONP.out W6 HW6.out ?_)
    | (refine wpList_load_mid rfl 32 (.tmp 3) rfl (w.heap.size + 1) 0 rfl yc _ RGZ huc rfl (by rw [HLZ.out]; exact info_cm) ?_; simp only [Act.put, List.setIfInBounds_toArray, List.set_cons_zero, List.set_cons_succ])
    | fail)
  refine HZZ.out.mono ?_
  rintro e wz ⟨rfl, hbz⟩
  have HSZ := Lib.hid (HS6.out.later hbz)
  have kz_32 := HSZ.out.a.cell HPX.out.2.2.2.1
  have kz_33 := HSZ.out.a.cell HPX.out.2.2.2.2.1
  have HBE := Lib.hid HSZ.out.be
  clear hbz
  go_wp2_with (first
    | (refine wpList_load_mid rfl 32 (.tmp 1) rfl w.heap.size 0 rfl xc _ RG0 huc rfl (by rw [HLC.out]; exact info_cm) ?_
       simp only [Act.put, List.setIfInBounds_toArray, List.set_cons_zero, List.set_cons_succ])
    | (refine wpList_store_asC rfl 32 (.tmp 3) (.tmp 4) rfl (w.heap.size + 1) 0 xc.toArray rfl rfl (by simpa [HLC.out] using TH1) (by simpa [HLC.out] using info_cm) HON.out W1 HW1.out ?_)
    | fail)
  go_ret
  exact ⟨by first | rfl | (rw [HT.out]; rfl), HBE.out⟩
end Go.Proofs.Ytnhcjadkbogioaa

/- Commands: which may be, by the document: 2, c. -/
namespace Go.Proofs.Ytnhcjadkbogioaa
set_option linter.unusedVariables false
set_option linter.unusedSimpArgs false
open Go Go.RowKit OctM

set_option maxRecDepth 100000 in
set_option maxHeartbeats 6400000 in
theorem rccheck_2c (x : Cm) (w : World) (h : okCm w x) (hk : x.kd = 2) (hg : 0 ≤ x.dv) (hl : x.dv < 6) (r1 : 1 ≤ x.rq) (r2 : x.rq ≤ 1099511627776) (z : cz (y2 x)) (i1 : 1 ≤ x.id) (hx : ¬ (x.id < 1073741824)) :
    Calls Try.prog 15 #[.agg (cmc x).toArray] w fun e w' => e = .returned (.bool (decide (cok x))) ∧ Below w.heap.size w w' := by
  have hue := Try.underlying29
  have hup := Try.underlying27
  have huc := Try.underlying32
  obtain ⟨hs1, hth⟩ := CkSt.new w x h.e8 h.p8
  have B0 := Blk.new w (cmc x) 32
  have RG0 := B0.range 0 (cmc x) (by rw [List.drop_zero, List.take_length])
  have honc := all_oneCell_toArray (cmc_one x)
  have HLC := Lib.hid (cmc_len h.e8 h.p8)
  have HPX := Lib.hid (cm_at h.e8 h.p8)
  obtain ⟨xc, hxc⟩ : ∃ c, c = cmc x := ⟨_, rfl⟩
  obtain ⟨W1, hW1⟩ : ∃ W1, W1 = ((w.alloc (.cells (cmc x).toArray 32)).alloc (.cells #[.int .i64 0, .int .i64 0, .int .i64 0, .int .i64 0, .int .u32 0, .int .u32 0, .int .i64 0, .int .i64 0, .string ⟨#[]⟩, .int .i64 0, .int .i64 0, .string ⟨#[]⟩, .int .i64 0, .int .i64 0, .string ⟨#[]⟩, .int .i64 0, .int .i64 0, .string ⟨#[]⟩, .int .i64 0, .int .i64 0, .string ⟨#[]⟩, .int .i64 0, .int .i64 0, .string ⟨#[]⟩, .int .i64 0, .int .i64 0, .string ⟨#[]⟩, .int .i64 0, .int .i64 0, .string ⟨#[]⟩, .int .i64 0, .int .i64 0, .int .i64 0, .int .i64 0, .int .i64 0, .int .u32 0, .int .u32 0, .int .i64 0, .int .i64 0, .string ⟨#[]⟩, .int .i64 0, .int .i64 0, .string ⟨#[]⟩, .int .i64 0, .int .i64 0, .string ⟨#[]⟩, .int .i64 0, .int .i64 0, .string ⟨#[]⟩, .int .i64 0, .int .i64 0, .string ⟨#[]⟩, .int .i64 0, .int .i64 0, .string ⟨#[]⟩, .int .i64 0, .int .i64 0, .string ⟨#[]⟩, .int .i64 0, .int .i64 0, .string ⟨#[]⟩, .slice none 0 0, .int .u32 0] 32)).setCells (w.heap.size + 1) 0 (cmc x) := ⟨_, rfl⟩
  rw [← hW1] at hs1
  rw [← hxc] at hW1 RG0 honc HLC hth ⊢
  have HS1 := Lib.hid hs1
  have HW1 := Lib.hid hW1
  have HON := Lib.hid honc
  have TH1 := hth
  obtain ⟨R, hR⟩ : ∃ R, R = decide (cok x) := ⟨_, rfl⟩
  rw [← hR]
  have HR := Lib.hid hR
  have e1 : (x.kd == 1) = false := by rw [hk]; rfl
  have e5 : (x.kd == 5) = false := by rw [hk]; rfl
  have e2 : (x.kd == 2) = true := by rw [hk]; rfl
  have e3 : (x.kd == 3) = false := by rw [hk]; rfl
  have e4 : (x.kd == 4) = false := by rw [hk]; rfl
  have ka_kd := HS1.out.a.cell HPX.out.1
  clear hs1 hth hxc hW1 honc hR B0
  have S2 := HS1.out.set 30 (.int .i64 0) (cm_sets HS1.out.y1 HS1.out.y2 0 0#32).2.1 HS1.out.y1 HS1.out.y2
  have S2 : CkSt w x _ (W1.setCell ⟨w.heap.size + 1, 30, none⟩ (.int .i64 0)) := S2
  obtain ⟨W2, hW2⟩ : ∃ W, W = W1.setCell ⟨w.heap.size + 1, 30, none⟩ (.int .i64 0) := ⟨_, rfl⟩
  rw [← hW2] at S2
  have C30 := Lib.hid (HS1.out.b.cell (cm_at HS1.out.y1 HS1.out.y2).2.1)
  have F30 := Lib.hid (HS1.out.b.frozen 30)
  have HW2 := Lib.hid hW2
  have S2 := Lib.hid S2
  clear hW2
  have S3 := S2.out.set 31 (.int .i64 0) (cm_sets S2.out.y1 S2.out.y2 0 0#32).2.2.1 S2.out.y1 S2.out.y2
  have S3 : CkSt w x _ (W2.setCell ⟨w.heap.size + 1, 31, none⟩ (.int .i64 0)) := S3
  obtain ⟨W3, hW3⟩ : ∃ W, W = W2.setCell ⟨w.heap.size + 1, 31, none⟩ (.int .i64 0) := ⟨_, rfl⟩
  rw [← hW3] at S3
  have C31 := Lib.hid (S2.out.b.cell (cm_at S2.out.y1 S2.out.y2).2.2.1)
  have F31 := Lib.hid (S2.out.b.frozen 31)
  have HW3 := Lib.hid hW3
  have S3 := Lib.hid S3
  clear hW3
  have kc_kd := S3.out.a.cell HPX.out.1
  have kc_30 := S3.out.a.cell HPX.out.2.1
  have kc_31 := S3.out.a.cell HPX.out.2.2.1
  have S4 := S3.out.set 32 (.int .i64 0) (cm_sets S3.out.y1 S3.out.y2 0 0#32).2.2.2.1 S3.out.y1 S3.out.y2
  have S4 : CkSt w x _ (W3.setCell ⟨w.heap.size + 1, 32, none⟩ (.int .i64 0)) := S4
  obtain ⟨W4, hW4⟩ : ∃ W, W = W3.setCell ⟨w.heap.size + 1, 32, none⟩ (.int .i64 0) := ⟨_, rfl⟩
  rw [← hW4] at S4
  have C32 := Lib.hid (S3.out.b.cell (cm_at S3.out.y1 S3.out.y2).2.2.2.1)
  have F32 := Lib.hid (S3.out.b.frozen 32)
  have HW4 := Lib.hid hW4
  have S4 := Lib.hid S4
  clear hW4
  have S5 := S4.out.set 33 (.int .i64 0) (cm_sets S4.out.y1 S4.out.y2 0 0#32).2.2.2.2.1 S4.out.y1 S4.out.y2
  have S5 : CkSt w x _ (W4.setCell ⟨w.heap.size + 1, 33, none⟩ (.int .i64 0)) := S5
  obtain ⟨W5, hW5⟩ : ∃ W, W = W4.setCell ⟨w.heap.size + 1, 33, none⟩ (.int .i64 0) := ⟨_, rfl⟩
  rw [← hW5] at S5
  have C33 := Lib.hid (S4.out.b.cell (cm_at S4.out.y1 S4.out.y2).2.2.2.2.1)
  have F33 := Lib.hid (S4.out.b.frozen 33)
  have HW5 := Lib.hid hW5
  have S5 := Lib.hid S5
  clear hW5
  have hs6 := S5.out.setP
  have THP := S5.out.b.there 35 26 (by rw [cmc_len S5.out.y1 S5.out.y2]; omega)
  obtain ⟨W6, hW6⟩ : ∃ W, W = W5.setCells (w.heap.size + 1) 35 (pcells 0 0 zeros) := ⟨_, rfl⟩
  rw [← hW6] at hs6
  have hs6 : CkSt w x (q2 x) W6 := hs6
  have HS6 := Lib.hid hs6
  have HW6 := Lib.hid hW6
  have HONP := Lib.hid (all_oneCell_toArray (pcells_one 0 0 zeros))
  clear hs6 hW6
  have hzz := rczero_any (q2 x) W6 ⟨HS6.out.y1, HS6.out.y2, h.len, h.cap, h.max, ((h.see.below HS6.out.be).more HS6.out.be.size)⟩
  have RGZ := HS6.out.b.range 0 (cmc (q2 x)) (by rw [List.drop_zero, List.take_length])
  have HLZ := Lib.hid (cmc_len HS6.out.y1 HS6.out.y2)
  rw [decide_eq_true (show cz (q2 x) from z)] at hzz
  obtain ⟨yc, hyc⟩ : ∃ c, c = cmc (q2 x) := ⟨_, rfl⟩
  rw [← hyc] at hzz RGZ HLZ
  have HZZ := Lib.hid hzz
  clear hzz hyc
  have q_hg : decide (x.dv < 0) = false := decide_eq_false (by omega)
  have q_hl : decide (6 ≤ x.dv) = false := decide_eq_false (by omega)
  have q_r1 : decide (x.rq < 1) = false := decide_eq_false (by omega)
  have q_r2 : decide (1099511627776 < x.rq) = false := decide_eq_false (by omega)
  have q_i1 : decide (1 ≤ x.id) = true := decide_eq_true (by omega)
  have q_hx : decide (x.id < 1073741824) = false := decide_eq_false (by omega)
  have hHT : R = false := by rw [HR.out]; exact decide_eq_false (fun k => hx ((cok_2 hk).1 k).2.2.1.2)
  have HT := Lib.hid hHT
  clear hHT
  clear hk
  go_enter Try.func15, Try.ntmps15
  go_wp2_with (first
    | (refine wpList_load_mid rfl 32 (.tmp 1) rfl w.heap.size 0 rfl xc _ RG0 huc rfl (by rw [HLC.out]; exact info_cm) ?_
       simp only [Act.put, List.setIfInBounds_toArray, List.set_cons_zero, List.set_cons_succ])
    | (refine wpList_store_asC rfl 32 (.tmp 3) (.tmp 4) rfl (w.heap.size + 1) 0 xc.toArray rfl rfl (by simpa [HLC.out] using TH1) (by simpa [HLC.out] using info_cm) HON.out W1 HW1.out ?_)
    | (refine wpList_store_i rfl 3 (.tmp 34) (.const (.int .i64 0)) rfl (w.heap.size + 1) 30 .i64 0 rfl rfl _ info_i C30.out F30.out W2 HW2.out ?_)
    | (refine wpList_store_i rfl 3 (.tmp 35) (.const (.int .i64 0)) rfl (w.heap.size + 1) 31 .i64 0 rfl rfl _ info_i C31.out F31.out W3 HW3.out ?_)
    | (refine wpList_store_i rfl 3 (.tmp 58) (.const (.int .i64 0)) rfl (w.heap.size + 1) 32 .i64 0 rfl rfl _ info_i C32.out F32.out W4 HW4.out ?_)
    | (refine wpList_store_i rfl 3 (.tmp 59) (.const (.int .i64 0)) rfl (w.heap.size + 1) 33 .i64 0 rfl rfl _ info_i C33.out F33.out W5 HW5.out ?_)
    | (refine wpList_store_asC rfl 27 (.tmp 61) (.tmp 60) rfl (w.heap.size + 1) 35 (pcells 0 0 zeros).toArray rfl rfl THP info_patch HONP.out W6 HW6.out ?_)
    | (refine wpList_load_mid rfl 32 (.tmp 3) rfl (w.heap.size + 1) 0 rfl yc _ RGZ huc rfl (by rw [HLZ.out]; exact info_cm) ?_; simp only [Act.put, List.setIfInBounds_toArray, List.set_cons_zero, List.set_cons_succ])
    | fail)
  refine HZZ.out.mono ?_
  rintro e wz ⟨rfl, hbz⟩
  have HSZ := Lib.hid (HS6.out.later hbz)
  have kz_32 := HSZ.out.a.cell HPX.out.2.2.2.1
  have kz_33 := HSZ.out.a.cell HPX.out.2.2.2.2.1
  have HBE := Lib.hid HSZ.out.be
  clear hbz
  go_wp2_with (first
    | (refine wpList_load_mid rfl 32 (.tmp 1) rfl w.heap.size 0 rfl xc _ RG0 huc rfl (by rw [HLC.out]; exact info_cm) ?_
       simp only [Act.put, List.setIfInBounds_toArray, List.set_cons_zero, List.set_cons_succ])
    | (refine wpList_store_asC rfl 32 (.tmp 3) (.tmp 4) rfl (w.heap.size + 1) 0 xc.toArray rfl rfl (by simpa [HLC.out] using TH1) (by simpa [HLC.out] using info_cm) HON.out W1 HW1.out ?_)
    | fail)
  go_ret
  exact ⟨by first | rfl | (rw [HT.out]; rfl), HBE.out⟩
end Go.Proofs.Ytnhcjadkbogioaa

/- Commands: which may be, by the document: 2, d. -/
namespace Go.Proofs.Ytnhcjadkbogioaa
set_option linter.unusedVariables false
set_option linter.unusedSimpArgs false
open Go Go.RowKit OctM

set_option maxRecDepth 100000 in
set_option maxHeartbeats 6400000 in
theorem rccheck_2d (x : Cm) (w : World) (h : okCm w x) (hk : x.kd = 2) (hg : 0 ≤ x.dv) (hl : x.dv < 6) (r1 : 1 ≤ x.rq) (r2 : x.rq ≤ 1099511627776) (z : cz (y2 x)) (i1 : 1 ≤ x.id) (hx : x.id < 1073741824) (b1 : ¬ (1 ≤ x.bs)) :
    Calls Try.prog 15 #[.agg (cmc x).toArray] w fun e w' => e = .returned (.bool (decide (cok x))) ∧ Below w.heap.size w w' := by
  have hue := Try.underlying29
  have hup := Try.underlying27
  have huc := Try.underlying32
  obtain ⟨hs1, hth⟩ := CkSt.new w x h.e8 h.p8
  have B0 := Blk.new w (cmc x) 32
  have RG0 := B0.range 0 (cmc x) (by rw [List.drop_zero, List.take_length])
  have honc := all_oneCell_toArray (cmc_one x)
  have HLC := Lib.hid (cmc_len h.e8 h.p8)
  have HPX := Lib.hid (cm_at h.e8 h.p8)
  obtain ⟨xc, hxc⟩ : ∃ c, c = cmc x := ⟨_, rfl⟩
  obtain ⟨W1, hW1⟩ : ∃ W1, W1 = ((w.alloc (.cells (cmc x).toArray 32)).alloc (.cells #[.int .i64 0, .int .i64 0, .int .i64 0, .int .i64 0, .int .u32 0, .int .u32 0, .int .i64 0, .int .i64 0, .string ⟨#[]⟩, .int .i64 0, .int .i64 0, .string ⟨#[]⟩, .int .i64 0, .int .i64 0, .string ⟨#[]⟩, .int .i64 0, .int .i64 0, .string ⟨#[]⟩, .int .i64 0, .int .i64 0, .string ⟨#[]⟩, .int .i64 0, .int .i64 0, .string ⟨#[]⟩, .int .i64 0, .int .i64 0, .string ⟨#[]⟩, .int .i64 0, .int .i64 0, .string ⟨#[]⟩, .int .i64 0, .int .i64 0, .int .i64 0, .int .i64 0, .int .i64 0, .int .u32 0, .int .u32 0, .int .i64 0, .int .i64 0, .string ⟨#[]⟩, .int .i64 0, .int .i64 0, .string ⟨#[]⟩, .int .i64 0, .int .i64 0, .string ⟨#[]⟩, .int .i64 0, .int .i64 0, .string ⟨#[]⟩, .int .i64 0, .int .i64 0, .string ⟨#[]⟩, .int .i64 0, .int .i64 0, .string ⟨#[]⟩, .int .i64 0, .int .i64 0, .string ⟨#[]⟩, .int .i64 0, .int .i64 0, .string ⟨#[]⟩, .slice none 0 0, .int .u32 0] 32)).setCells (w.heap.size + 1) 0 (cmc x) := ⟨_, rfl⟩
  rw [← hW1] at hs1
  rw [← hxc] at hW1 RG0 honc HLC hth ⊢
  have HS1 := Lib.hid hs1
  have HW1 := Lib.hid hW1
  have HON := Lib.hid honc
  have TH1 := hth
  obtain ⟨R, hR⟩ : ∃ R, R = decide (cok x) := ⟨_, rfl⟩
  rw [← hR]
  have HR := Lib.hid hR
  have e1 : (x.kd == 1) = false := by rw [hk]; rfl
  have e5 : (x.kd == 5) = false := by rw [hk]; rfl
  have e2 : (x.kd == 2) = true := by rw [hk]; rfl
  have e3 : (x.kd == 3) = false := by rw [hk]; rfl
  have e4 : (x.kd == 4) = false := by rw [hk]; rfl
  have ka_kd := HS1.out.a.cell HPX.out.1
  clear hs1 hth hxc hW1 honc hR B0
  have S2 := HS1.out.set 30 (.int .i64 0) (cm_sets HS1.out.y1 HS1.out.y2 0 0#32).2.1 HS1.out.y1 HS1.out.y2
  have S2 : CkSt w x _ (W1.setCell ⟨w.heap.size + 1, 30, none⟩ (.int .i64 0)) := S2
  obtain ⟨W2, hW2⟩ : ∃ W, W = W1.setCell ⟨w.heap.size + 1, 30, none⟩ (.int .i64 0) := ⟨_, rfl⟩
  rw [← hW2] at S2
  have C30 := Lib.hid (HS1.out.b.cell (cm_at HS1.out.y1 HS1.out.y2).2.1)
  have F30 := Lib.hid (HS1.out.b.frozen 30)
  have HW2 := Lib.hid hW2
  have S2 := Lib.hid S2
  clear hW2
  have S3 := S2.out.set 31 (.int .i64 0) (cm_sets S2.out.y1 S2.out.y2 0 0#32).2.2.1 S2.out.y1 S2.out.y2
  have S3 : CkSt w x _ (W2.setCell ⟨w.heap.size + 1, 31, none⟩ (.int .i64 0)) := S3
  obtain ⟨W3, hW3⟩ : ∃ W, W = W2.setCell ⟨w.heap.size + 1, 31, none⟩ (.int .i64 0) := ⟨_, rfl⟩
  rw [← hW3] at S3
  have C31 := Lib.hid (S2.out.b.cell (cm_at S2.out.y1 S2.out.y2).2.2.1)
  have F31 := Lib.hid (S2.out.b.frozen 31)
  have HW3 := Lib.hid hW3
  have S3 := Lib.hid S3
  clear hW3
  have kc_kd := S3.out.a.cell HPX.out.1
  have kc_30 := S3.out.a.cell HPX.out.2.1
  have kc_31 := S3.out.a.cell HPX.out.2.2.1
  have S4 := S3.out.set 32 (.int .i64 0) (cm_sets S3.out.y1 S3.out.y2 0 0#32).2.2.2.1 S3.out.y1 S3.out.y2
  have S4 : CkSt w x _ (W3.setCell ⟨w.heap.size + 1, 32, none⟩ (.int .i64 0)) := S4
  obtain ⟨W4, hW4⟩ : ∃ W, W = W3.setCell ⟨w.heap.size + 1, 32, none⟩ (.int .i64 0) := ⟨_, rfl⟩
  rw [← hW4] at S4
  have C32 := Lib.hid (S3.out.b.cell (cm_at S3.out.y1 S3.out.y2).2.2.2.1)
  have F32 := Lib.hid (S3.out.b.frozen 32)
  have HW4 := Lib.hid hW4
  have S4 := Lib.hid S4
  clear hW4
  have S5 := S4.out.set 33 (.int .i64 0) (cm_sets S4.out.y1 S4.out.y2 0 0#32).2.2.2.2.1 S4.out.y1 S4.out.y2
  have S5 : CkSt w x _ (W4.setCell ⟨w.heap.size + 1, 33, none⟩ (.int .i64 0)) := S5
  obtain ⟨W5, hW5⟩ : ∃ W, W = W4.setCell ⟨w.heap.size + 1, 33, none⟩ (.int .i64 0) := ⟨_, rfl⟩
  rw [← hW5] at S5
  have C33 := Lib.hid (S4.out.b.cell (cm_at S4.out.y1 S4.out.y2).2.2.2.2.1)
  have F33 := Lib.hid (S4.out.b.frozen 33)
  have HW5 := Lib.hid hW5
  have S5 := Lib.hid S5
  clear hW5
  have hs6 := S5.out.setP
  have THP := S5.out.b.there 35 26 (by rw [cmc_len S5.out.y1 S5.out.y2]; omega)
  obtain ⟨W6, hW6⟩ : ∃ W, W = W5.setCells (w.heap.size + 1) 35 (pcells 0 0 zeros) := ⟨_, rfl⟩
  rw [← hW6] at hs6
  have hs6 : CkSt w x (q2 x) W6 := hs6
  have HS6 := Lib.hid hs6
  have HW6 := Lib.hid hW6
  have HONP := Lib.hid (all_oneCell_toArray (pcells_one 0 0 zeros))
  clear hs6 hW6
  have hzz := rczero_any (q2 x) W6 ⟨HS6.out.y1, HS6.out.y2, h.len, h.cap, h.max, ((h.see.below HS6.out.be).more HS6.out.be.size)⟩
  have RGZ := HS6.out.b.range 0 (cmc (q2 x)) (by rw [List.drop_zero, List.take_length])
  have HLZ := Lib.hid (cmc_len HS6.out.y1 HS6.out.y2)
  rw [decide_eq_true (show cz (q2 x) from z)] at hzz
  obtain ⟨yc, hyc⟩ : ∃ c, c = cmc (q2 x) := ⟨_, rfl⟩
  rw [← hyc] at hzz RGZ HLZ
  have HZZ := Lib.hid hzz
  clear hzz hyc
  have q_hg : decide (x.dv < 0) = false := decide_eq_false (by omega)
  have q_hl : decide (6 ≤ x.dv) = false := decide_eq_false (by omega)
  have q_r1 : decide (x.rq < 1) = false := decide_eq_false (by omega)
  have q_r2 : decide (1099511627776 < x.rq) = false := decide_eq_false (by omega)
  have q_i1 : decide (1 ≤ x.id) = true := decide_eq_true (by omega)
  have q_hx : decide (x.id < 1073741824) = true := decide_eq_true (by omega)
  have q_b1 : decide (1 ≤ x.bs) = false := decide_eq_false (by omega)
  have hHT : R = false := by rw [HR.out]; exact decide_eq_false (fun k => b1 ((cok_2 hk).1 k).2.2.2.1.1)
  have HT := Lib.hid hHT
  clear hHT
  clear hk
  go_enter Try.func15, Try.ntmps15
  go_wp2_with (first
    | (refine wpList_load_mid rfl 32 (.tmp 1) rfl w.heap.size 0 rfl xc _ RG0 huc rfl (by rw [HLC.out]; exact info_cm) ?_
       simp only [Act.put, List.setIfInBounds_toArray, List.set_cons_zero, List.set_cons_succ])
    | (refine wpList_store_asC rfl 32 (.tmp 3) (.tmp 4) rfl (w.heap.size + 1) 0 xc.toArray rfl rfl (by simpa [HLC.out] using TH1) (by simpa [HLC.out] using info_cm) HON.out W1 HW1.out ?_)
    | (refine wpList_store_i rfl 3 (.tmp 34) (.const (.int .i64 0)) rfl (w.heap.size + 1) 30 .i64 0 rfl rfl _ info_i C30.out F30.out W2 HW2.out ?_)
    | (refine wpList_store_i rfl 3 (.tmp 35) (.const (.int .i64 0)) rfl (w.heap.size + 1) 31 .i64 0 rfl rfl _ info_i C31.out F31.out W3 HW3.out ?_)
    | (refine wpList_store_i rfl 3 (.tmp 58) (.const (.int .i64 0)) rfl (w.heap.size + 1) 32 .i64 0 rfl rfl _ info_i C32.out F32.out W4 HW4.out ?_)
    | (refine wpList_store_i rfl 3 (.tmp 59) (.const (.int .i64 0)) rfl (w.heap.size + 1) 33 .i64 0 rfl rfl _ info_i C33.out F33.out W5 HW5.out ?_)
    | (refine wpList_store_asC rfl 27 (.tmp 61) (.tmp 60) rfl (w.heap.size + 1) 35 (pcells 0 0 zeros).toArray rfl rfl THP info_patch HONP.out W6 HW6.out ?_)
    | (refine wpList_load_mid rfl 32 (.tmp 3) rfl (w.heap.size + 1) 0 rfl yc _ RGZ huc rfl (by rw [HLZ.out]; exact info_cm) ?_; simp only [Act.put, List.setIfInBounds_toArray, List.set_cons_zero, List.set_cons_succ])
    | fail)
  refine HZZ.out.mono ?_
  rintro e wz ⟨rfl, hbz⟩
  have HSZ := Lib.hid (HS6.out.later hbz)
  have kz_32 := HSZ.out.a.cell HPX.out.2.2.2.1
  have kz_33 := HSZ.out.a.cell HPX.out.2.2.2.2.1
  have HBE := Lib.hid HSZ.out.be
  clear hbz
  go_wp2_with (first
    | (refine wpList_load_mid rfl 32 (.tmp 1) rfl w.heap.size 0 rfl xc _ RG0 huc rfl (by rw [HLC.out]; exact info_cm) ?_
       simp only [Act.put, List.setIfInBounds_toArray, List.set_cons_zero, List.set_cons_succ])
    | (refine wpList_store_asC rfl 32 (.tmp 3) (.tmp 4) rfl (w.heap.size + 1) 0 xc.toArray rfl rfl (by simpa [HLC.out] using TH1) (by simpa [HLC.out] using info_cm) HON.out W1 HW1.out ?_)
    | fail)
  go_ret
  exact ⟨by first | rfl | (rw [HT.out]; rfl), HBE.out⟩
end Go.Proofs.Ytnhcjadkbogioaa

/- Commands: which may be, by the document: 2, e. -/
namespace Go.Proofs.Ytnhcjadkbogioaa
set_option linter.unusedVariables false
set_option linter.unusedSimpArgs false
open Go Go.RowKit OctM

set_option maxRecDepth 100000 in
set_option maxHeartbeats 6400000 in
theorem rccheck_2e (x : Cm) (w : World) (h : okCm w x) (hk : x.kd = 2) (hg : 0 ≤ x.dv) (hl : x.dv < 6) (r1 : 1 ≤ x.rq) (r2 : x.rq ≤ 1099511627776) (z : cz (y2 x)) (i1 : 1 ≤ x.id) (hx : x.id < 1073741824) (b1 : 1 ≤ x.bs) (b2 : ¬ (x.bs ≤ 1099511627776)) :
    Calls Try.prog 15 #[.agg (cmc x).toArray] w fun e w' => e = .returned (.bool (decide (cok x))) ∧ Below w.heap.size w w' := by
  have hue := Try.underlying29
  have hup := Try.underlying27
  have huc := Try.underlying32
  obtain ⟨hs1, hth⟩ := CkSt.new w x h.e8 h.p8
  have B0 := Blk.new w (cmc x) 32
  have RG0 := B0.range 0 (cmc x) (by rw [List.drop_zero, List.take_length])
  have honc := all_oneCell_toArray (cmc_one x)
  have HLC := Lib.hid (cmc_len h.e8 h.p8)
  have HPX := Lib.hid (cm_at h.e8 h.p8)
  obtain ⟨xc, hxc⟩ : ∃ c, c = cmc x := ⟨_, rfl⟩
  obtain ⟨W1, hW1⟩ : ∃ W1, W1 = ((w.alloc (.cells (cmc x).toArray 32)).alloc (.cells #[.int .i64 0, .int .i64 0, .int .i64 0, .int .i64 0, .int .u32 0, .int .u32 0, .int .i64 0, .int .i64 0, .string ⟨#[]⟩, .int .i64 0, .int .i64 0, .string ⟨#[]⟩, .int .i64 0, .int .i64 0, .string ⟨#[]⟩, .int .i64 0, .int .i64 0, .string ⟨#[]⟩, .int .i64 0, .int .i64 0, .string ⟨#[]⟩, .int .i64 0, .int .i64 0, .string ⟨#[]⟩, .int .i64 0, .int .i64 0, .string ⟨#[]⟩, .int .i64 0, .int .i64 0, .string ⟨#[]⟩, .int .i64 0, .int .i64 0, .int .i64 0, .int .i64 0, .int .i64 0, .int .u32 0, .int .u32 0, .int .i64 0, .int .i64 0, .string ⟨#[]⟩, .int .i64 0, .int .i64 0, .string ⟨#[]⟩, .int .i64 0, .int .i64 0, .string ⟨#[]⟩, .int .i64 0, .int .i64 0, .string ⟨#[]⟩, .int .i64 0, .int .i64 0, .string ⟨#[]⟩, .int .i64 0, .int .i64 0, .string ⟨#[]⟩, .int .i64 0, .int .i64 0, .string ⟨#[]⟩, .int .i64 0, .int .i64 0, .string ⟨#[]⟩, .slice none 0 0, .int .u32 0] 32)).setCells (w.heap.size + 1) 0 (cmc x) := ⟨_, rfl⟩
  rw [← hW1] at hs1
  rw [← hxc] at hW1 RG0 honc HLC hth ⊢
  have HS1 := Lib.hid hs1
  have HW1 := Lib.hid hW1
  have HON := Lib.hid honc
  have TH1 := hth
  obtain ⟨R, hR⟩ : ∃ R, R = decide (cok x) := ⟨_, rfl⟩
  rw [← hR]
  have HR := Lib.hid hR
  have e1 : (x.kd == 1) = false := by rw [hk]; rfl
  have e5 : (x.kd == 5) = false := by rw [hk]; rfl
  have e2 : (x.kd == 2) = true := by rw [hk]; rfl
  have e3 : (x.kd == 3) = false := by rw [hk]; rfl
  have e4 : (x.kd == 4) = false := by rw [hk]; rfl
  have ka_kd := HS1.out.a.cell HPX.out.1
  clear hs1 hth hxc hW1 honc hR B0
  have S2 := HS1.out.set 30 (.int .i64 0) (cm_sets HS1.out.y1 HS1.out.y2 0 0#32).2.1 HS1.out.y1 HS1.out.y2
  have S2 : CkSt w x _ (W1.setCell ⟨w.heap.size + 1, 30, none⟩ (.int .i64 0)) := S2
  obtain ⟨W2, hW2⟩ : ∃ W, W = W1.setCell ⟨w.heap.size + 1, 30, none⟩ (.int .i64 0) := ⟨_, rfl⟩
  rw [← hW2] at S2
  have C30 := Lib.hid (HS1.out.b.cell (cm_at HS1.out.y1 HS1.out.y2).2.1)
  have F30 := Lib.hid (HS1.out.b.frozen 30)
  have HW2 := Lib.hid hW2
  have S2 := Lib.hid S2
  clear hW2
  have S3 := S2.out.set 31 (.int .i64 0) (cm_sets S2.out.y1 S2.out.y2 0 0#32).2.2.1 S2.out.y1 S2.out.y2
  have S3 : CkSt w x _ (W2.setCell ⟨w.heap.size + 1, 31, none⟩ (.int .i64 0)) := S3
  obtain ⟨W3, hW3⟩ : ∃ W, W = W2.setCell ⟨w.heap.size + 1, 31, none⟩ (.int .i64 0) := ⟨_, rfl⟩
  rw [← hW3] at S3
  have C31 := Lib.hid (S2.out.b.cell (cm_at S2.out.y1 S2.out.y2).2.2.1)
  have F31 := Lib.hid (S2.out.b.frozen 31)
  have HW3 := Lib.hid hW3
  have S3 := Lib.hid S3
  clear hW3
  have kc_kd := S3.out.a.cell HPX.out.1
  have kc_30 := S3.out.a.cell HPX.out.2.1
  have kc_31 := S3.out.a.cell HPX.out.2.2.1
  have S4 := S3.out.set 32 (.int .i64 0) (cm_sets S3.out.y1 S3.out.y2 0 0#32).2.2.2.1 S3.out.y1 S3.out.y2
  have S4 : CkSt w x _ (W3.setCell ⟨w.heap.size + 1, 32, none⟩ (.int .i64 0)) := S4
  obtain ⟨W4, hW4⟩ : ∃ W, W = W3.setCell ⟨w.heap.size + 1, 32, none⟩ (.int .i64 0) := ⟨_, rfl⟩
  rw [← hW4] at S4
  have C32 := Lib.hid (S3.out.b.cell (cm_at S3.out.y1 S3.out.y2).2.2.2.1)
  have F32 := Lib.hid (S3.out.b.frozen 32)
  have HW4 := Lib.hid hW4
  have S4 := Lib.hid S4
  clear hW4
  have S5 := S4.out.set 33 (.int .i64 0) (cm_sets S4.out.y1 S4.out.y2 0 0#32).2.2.2.2.1 S4.out.y1 S4.out.y2
  have S5 : CkSt w x _ (W4.setCell ⟨w.heap.size + 1, 33, none⟩ (.int .i64 0)) := S5
  obtain ⟨W5, hW5⟩ : ∃ W, W = W4.setCell ⟨w.heap.size + 1, 33, none⟩ (.int .i64 0) := ⟨_, rfl⟩
  rw [← hW5] at S5
  have C33 := Lib.hid (S4.out.b.cell (cm_at S4.out.y1 S4.out.y2).2.2.2.2.1)
  have F33 := Lib.hid (S4.out.b.frozen 33)
  have HW5 := Lib.hid hW5
  have S5 := Lib.hid S5
  clear hW5
  have hs6 := S5.out.setP
  have THP := S5.out.b.there 35 26 (by rw [cmc_len S5.out.y1 S5.out.y2]; omega)
  obtain ⟨W6, hW6⟩ : ∃ W, W = W5.setCells (w.heap.size + 1) 35 (pcells 0 0 zeros) := ⟨_, rfl⟩
  rw [← hW6] at hs6
  have hs6 : CkSt w x (q2 x) W6 := hs6
  have HS6 := Lib.hid hs6
  have HW6 := Lib.hid hW6
  have HONP := Lib.hid (all_oneCell_toArray (pcells_one 0 0 zeros))
  clear hs6 hW6
  have hzz := rczero_any (q2 x) W6 ⟨HS6.out.y1, HS6.out.y2, h.len, h.cap, h.max, ((h.see.below HS6.out.be).more HS6.out.be.size)⟩
  have RGZ := HS6.out.b.range 0 (cmc (q2 x)) (by rw [List.drop_zero, List.take_length])
  have HLZ := Lib.hid (cmc_len HS6.out.y1 HS6.out.y2)
  rw [decide_eq_true (show cz (q2 x) from z)] at hzz
  obtain ⟨yc, hyc⟩ : ∃ c, c = cmc (q2 x) := ⟨_, rfl⟩
  rw [← hyc] at hzz RGZ HLZ
  have HZZ := Lib.hid hzz
  clear hzz hyc
  have q_hg : decide (x.dv < 0) = false := decide_eq_false (by omega)
  have q_hl : decide (6 ≤ x.dv) = false := decide_eq_false (by omega)
  have q_r1 : decide (x.rq < 1) = false := decide_eq_false (by omega)
  have q_r2 : decide (1099511627776 < x.rq) = false := decide_eq_false (by omega)
  have q_i1 : decide (1 ≤ x.id) = true := decide_eq_true (by omega)
  have q_hx : decide (x.id < 1073741824) = true := decide_eq_true (by omega)
  have q_b1 : decide (1 ≤ x.bs) = true := decide_eq_true (by omega)
  have q_b2 : decide (x.bs ≤ 1099511627776) = false := decide_eq_false (by omega)
  have hHT : R = false := by rw [HR.out]; exact decide_eq_false (fun k => b2 ((cok_2 hk).1 k).2.2.2.1.2)
  have HT := Lib.hid hHT
  clear hHT
  clear hk
  go_enter Try.func15, Try.ntmps15
  go_wp2_with (first
    | (refine wpList_load_mid rfl 32 (.tmp 1) rfl w.heap.size 0 rfl xc _ RG0 huc rfl (by rw [HLC.out]; exact info_cm) ?_
       simp only [Act.put, List.setIfInBounds_toArray, List.set_cons_zero, List.set_cons_succ])
    | (refine wpList_store_asC rfl 32 (.tmp 3) (.tmp 4) rfl (w.heap.size + 1) 0 xc.toArray rfl rfl (by simpa [HLC.out] using TH1) (by simpa [HLC.out] using info_cm) HON.out W1 HW1.out ?_)
    | (refine wpList_store_i rfl 3 (.tmp 34) (.const (.int .i64 0)) rfl (w.heap.size + 1) 30 .i64 0 rfl rfl _ info_i C30.out F30.out W2 HW2.out ?_)
    | (refine wpList_store_i rfl 3 (.tmp 35) (.const (.int .i64 0)) rfl (w.heap.size + 1) 31 .i64 0 rfl rfl _ info_i C31.out F31.out W3 HW3.out ?_)
    | (refine wpList_store_i rfl 3 (.tmp 58) (.const (.int .i64 0)) rfl (w.heap.size + 1) 32 .i64 0 rfl rfl _ info_i C32.out F32.out W4 HW4.out ?_)
    | (refine wpList_store_i rfl 3 (.tmp 59) (.const (.int .i64 0)) rfl (w.heap.size + 1) 33 .i64 0 rfl rfl _ info_i C33.out F33.out W5 HW5.out ?_)
    | (refine wpList_store_asC rfl 27 (.tmp 61) (.tmp 60) rfl (w.heap.size + 1) 35 (pcells 0 0 zeros).toArray rfl rfl THP info_patch HONP.out W6 HW6.out ?_)
    | (refine wpList_load_mid rfl 32 (.tmp 3) rfl (w.heap.size + 1) 0 rfl yc _ RGZ huc rfl (by rw [HLZ.out]; exact info_cm) ?_; simp only [Act.put, List.setIfInBounds_toArray, List.set_cons_zero, List.set_cons_succ])
    | fail)
  refine HZZ.out.mono ?_
  rintro e wz ⟨rfl, hbz⟩
  have HSZ := Lib.hid (HS6.out.later hbz)
  have kz_32 := HSZ.out.a.cell HPX.out.2.2.2.1
  have kz_33 := HSZ.out.a.cell HPX.out.2.2.2.2.1
  have HBE := Lib.hid HSZ.out.be
  clear hbz
  go_wp2_with (first
    | (refine wpList_load_mid rfl 32 (.tmp 1) rfl w.heap.size 0 rfl xc _ RG0 huc rfl (by rw [HLC.out]; exact info_cm) ?_
       simp only [Act.put, List.setIfInBounds_toArray, List.set_cons_zero, List.set_cons_succ])
    | (refine wpList_store_asC rfl 32 (.tmp 3) (.tmp 4) rfl (w.heap.size + 1) 0 xc.toArray rfl rfl (by simpa [HLC.out] using TH1) (by simpa [HLC.out] using info_cm) HON.out W1 HW1.out ?_)
    | fail)
  go_ret
  exact ⟨by first | rfl | (rw [HT.out]; rfl), HBE.out⟩
end Go.Proofs.Ytnhcjadkbogioaa

/- Commands: which may be, by the document: 2, f. -/
namespace Go.Proofs.Ytnhcjadkbogioaa
set_option linter.unusedVariables false
set_option linter.unusedSimpArgs false
open Go Go.RowKit OctM

set_option maxRecDepth 100000 in
set_option maxHeartbeats 6400000 in
theorem rccheck_2f (x : Cm) (w : World) (h : okCm w x) (hk : x.kd = 2) (hg : 0 ≤ x.dv) (hl : x.dv < 6) (r1 : 1 ≤ x.rq) (r2 : x.rq ≤ 1099511627776) (z : cz (y2 x)) (i1 : 1 ≤ x.id) (hx : x.id < 1073741824) (b1 : 1 ≤ x.bs) (b2 : x.bs ≤ 1099511627776) (hp : ¬ (pchk x.pm (x.pl.toNat : Int) x.pf = 0)) :
    Calls Try.prog 15 #[.agg (cmc x).toArray] w fun e w' => e = .returned (.bool (decide (cok x))) ∧ Below w.heap.size w w' := by
  have hue := Try.underlying29
  have hup := Try.underlying27
  have huc := Try.underlying32
  obtain ⟨hs1, hth⟩ := CkSt.new w x h.e8 h.p8
  have B0 := Blk.new w (cmc x) 32
  have RG0 := B0.range 0 (cmc x) (by rw [List.drop_zero, List.take_length])
  have honc := all_oneCell_toArray (cmc_one x)
  have HLC := Lib.hid (cmc_len h.e8 h.p8)
  have HPX := Lib.hid (cm_at h.e8 h.p8)
  obtain ⟨xc, hxc⟩ : ∃ c, c = cmc x := ⟨_, rfl⟩
  obtain ⟨W1, hW1⟩ : ∃ W1, W1 = ((w.alloc (.cells (cmc x).toArray 32)).alloc (.cells #[.int .i64 0, .int .i64 0, .int .i64 0, .int .i64 0, .int .u32 0, .int .u32 0, .int .i64 0, .int .i64 0, .string ⟨#[]⟩, .int .i64 0, .int .i64 0, .string ⟨#[]⟩, .int .i64 0, .int .i64 0, .string ⟨#[]⟩, .int .i64 0, .int .i64 0, .string ⟨#[]⟩, .int .i64 0, .int .i64 0, .string ⟨#[]⟩, .int .i64 0, .int .i64 0, .string ⟨#[]⟩, .int .i64 0, .int .i64 0, .string ⟨#[]⟩, .int .i64 0, .int .i64 0, .string ⟨#[]⟩, .int .i64 0, .int .i64 0, .int .i64 0, .int .i64 0, .int .i64 0, .int .u32 0, .int .u32 0, .int .i64 0, .int .i64 0, .string ⟨#[]⟩, .int .i64 0, .int .i64 0, .string ⟨#[]⟩, .int .i64 0, .int .i64 0, .string ⟨#[]⟩, .int .i64 0, .int .i64 0, .string ⟨#[]⟩, .int .i64 0, .int .i64 0, .string ⟨#[]⟩, .int .i64 0, .int .i64 0, .string ⟨#[]⟩, .int .i64 0, .int .i64 0, .string ⟨#[]⟩, .int .i64 0, .int .i64 0, .string ⟨#[]⟩, .slice none 0 0, .int .u32 0] 32)).setCells (w.heap.size + 1) 0 (cmc x) := ⟨_, rfl⟩
  rw [← hW1] at hs1
  rw [← hxc] at hW1 RG0 honc HLC hth ⊢
  have HS1 := Lib.hid hs1
  have HW1 := Lib.hid hW1
  have HON := Lib.hid honc
  have TH1 := hth
  obtain ⟨R, hR⟩ : ∃ R, R = decide (cok x) := ⟨_, rfl⟩
  rw [← hR]
  have HR := Lib.hid hR
  have e1 : (x.kd == 1) = false := by rw [hk]; rfl
  have e5 : (x.kd == 5) = false := by rw [hk]; rfl
  have e2 : (x.kd == 2) = true := by rw [hk]; rfl
  have e3 : (x.kd == 3) = false := by rw [hk]; rfl
  have e4 : (x.kd == 4) = false := by rw [hk]; rfl
  have ka_kd := HS1.out.a.cell HPX.out.1
  clear hs1 hth hxc hW1 honc hR B0
  have S2 := HS1.out.set 30 (.int .i64 0) (cm_sets HS1.out.y1 HS1.out.y2 0 0#32).2.1 HS1.out.y1 HS1.out.y2
  have S2 : CkSt w x _ (W1.setCell ⟨w.heap.size + 1, 30, none⟩ (.int .i64 0)) := S2
  obtain ⟨W2, hW2⟩ : ∃ W, W = W1.setCell ⟨w.heap.size + 1, 30, none⟩ (.int .i64 0) := ⟨_, rfl⟩
  rw [← hW2] at S2
  have C30 := Lib.hid (HS1.out.b.cell (cm_at HS1.out.y1 HS1.out.y2).2.1)
  have F30 := Lib.hid (HS1.out.b.frozen 30)
  have HW2 := Lib.hid hW2
  have S2 := Lib.hid S2
  clear hW2
  have S3 := S2.out.set 31 (.int .i64 0) (cm_sets S2.out.y1 S2.out.y2 0 0#32).2.2.1 S2.out.y1 S2.out.y2
  have S3 : CkSt w x _ (W2.setCell ⟨w.heap.size + 1, 31, none⟩ (.int .i64 0)) := S3
  obtain ⟨W3, hW3⟩ : ∃ W, W = W2.setCell ⟨w.heap.size + 1, 31, none⟩ (.int .i64 0) := ⟨_, rfl⟩
  rw [← hW3] at S3
  have C31 := Lib.hid (S2.out.b.cell (cm_at S2.out.y1 S2.out.y2).2.2.1)
  have F31 := Lib.hid (S2.out.b.frozen 31)
  have HW3 := Lib.hid hW3
  have S3 := Lib.hid S3
  clear hW3
  have kc_kd := S3.out.a.cell HPX.out.1
  have kc_30 := S3.out.a.cell HPX.out.2.1
  have kc_31 := S3.out.a.cell HPX.out.2.2.1
  have S4 := S3.out.set 32 (.int .i64 0) (cm_sets S3.out.y1 S3.out.y2 0 0#32).2.2.2.1 S3.out.y1 S3.out.y2
  have S4 : CkSt w x _ (W3.setCell ⟨w.heap.size + 1, 32, none⟩ (.int .i64 0)) := S4
  obtain ⟨W4, hW4⟩ : ∃ W, W = W3.setCell ⟨w.heap.size + 1, 32, none⟩ (.int .i64 0) := ⟨_, rfl⟩
  rw [← hW4] at S4
  have C32 := Lib.hid (S3.out.b.cell (cm_at S3.out.y1 S3.out.y2).2.2.2.1)
  have F32 := Lib.hid (S3.out.b.frozen 32)
  have HW4 := Lib.hid hW4
  have S4 := Lib.hid S4
  clear hW4
  have S5 := S4.out.set 33 (.int .i64 0) (cm_sets S4.out.y1 S4.out.y2 0 0#32).2.2.2.2.1 S4.out.y1 S4.out.y2
  have S5 : CkSt w x _ (W4.setCell ⟨w.heap.size + 1, 33, none⟩ (.int .i64 0)) := S5
  obtain ⟨W5, hW5⟩ : ∃ W, W = W4.setCell ⟨w.heap.size + 1, 33, none⟩ (.int .i64 0) := ⟨_, rfl⟩
  rw [← hW5] at S5
  have C33 := Lib.hid (S4.out.b.cell (cm_at S4.out.y1 S4.out.y2).2.2.2.2.1)
  have F33 := Lib.hid (S4.out.b.frozen 33)
  have HW5 := Lib.hid hW5
  have S5 := Lib.hid S5
  clear hW5
  have hs6 := S5.out.setP
  have THP := S5.out.b.there 35 26 (by rw [cmc_len S5.out.y1 S5.out.y2]; omega)
  obtain ⟨W6, hW6⟩ : ∃ W, W = W5.setCells (w.heap.size + 1) 35 (pcells 0 0 zeros) := ⟨_, rfl⟩
  rw [← hW6] at hs6
  have hs6 : CkSt w x (q2 x) W6 := hs6
  have HS6 := Lib.hid hs6
  have HW6 := Lib.hid hW6
  have HONP := Lib.hid (all_oneCell_toArray (pcells_one 0 0 zeros))
  clear hs6 hW6
  have hzz := rczero_any (q2 x) W6 ⟨HS6.out.y1, HS6.out.y2, h.len, h.cap, h.max, ((h.see.below HS6.out.be).more HS6.out.be.size)⟩
  have RGZ := HS6.out.b.range 0 (cmc (q2 x)) (by rw [List.drop_zero, List.take_length])
  have HLZ := Lib.hid (cmc_len HS6.out.y1 HS6.out.y2)
  rw [decide_eq_true (show cz (q2 x) from z)] at hzz
  obtain ⟨yc, hyc⟩ : ∃ c, c = cmc (q2 x) := ⟨_, rfl⟩
  rw [← hyc] at hzz RGZ HLZ
  have HZZ := Lib.hid hzz
  clear hzz hyc
  have q_hg : decide (x.dv < 0) = false := decide_eq_false (by omega)
  have q_hl : decide (6 ≤ x.dv) = false := decide_eq_false (by omega)
  have q_r1 : decide (x.rq < 1) = false := decide_eq_false (by omega)
  have q_r2 : decide (1099511627776 < x.rq) = false := decide_eq_false (by omega)
  have q_i1 : decide (1 ≤ x.id) = true := decide_eq_true (by omega)
  have q_hx : decide (x.id < 1073741824) = true := decide_eq_true (by omega)
  have q_b1 : decide (1 ≤ x.bs) = true := decide_eq_true (by omega)
  have q_b2 : decide (x.bs ≤ 1099511627776) = true := decide_eq_true (by omega)
  have HPC : Hid (∀ wx : World, Calls Try.prog 38 #[.agg (cmP x).toArray] wx fun e w' => e = .returned (.int .i64 (pchk x.pm (x.pl.toNat : Int) x.pf)) ∧ Below wx.heap.size wx w') := Lib.hid (fun wx => rpcheck_any x.pm (x.pl.toNat : Int) x.pf wx h.p8)
  have HPL := Lib.hid (cmP_len h.p8)
  obtain ⟨ip, hip⟩ : ∃ c, c = pchk x.pm (x.pl.toNat : Int) x.pf := ⟨_, rfl⟩
  rw [← hip] at HPC
  have HIP := Lib.hid hip
  clear hip
  have b0 : (ip == 0) = false := by rw [HIP.out]; simp [hp]
  have hHT : R = false := by rw [HR.out]; exact decide_eq_false (fun k => hp ((cok_2 hk).1 k).2.2.2.2.1)
  have HT := Lib.hid hHT
  clear hHT
  clear hk
  go_enter Try.func15, Try.ntmps15
  go_wp2_with (first
    | (refine wpList_load_mid rfl 32 (.tmp 1) rfl w.heap.size 0 rfl xc _ RG0 huc rfl (by rw [HLC.out]; exact info_cm) ?_
       simp only [Act.put, List.setIfInBounds_toArray, List.set_cons_zero, List.set_cons_succ])
    | (refine wpList_store_asC rfl 32 (.tmp 3) (.tmp 4) rfl (w.heap.size + 1) 0 xc.toArray rfl rfl (by simpa [HLC.out] using TH1) (by simpa [HLC.out] using info_cm) HON.out W1 HW1.out ?_)
    | (refine wpList_store_i rfl 3 (.tmp 34) (.const (.int .i64 0)) rfl (w.heap.size + 1) 30 .i64 0 rfl rfl _ info_i C30.out F30.out W2 HW2.out ?_)
    | (refine wpList_store_i rfl 3 (.tmp 35) (.const (.int .i64 0)) rfl (w.heap.size + 1) 31 .i64 0 rfl rfl _ info_i C31.out F31.out W3 HW3.out ?_)
    | (refine wpList_store_i rfl 3 (.tmp 58) (.const (.int .i64 0)) rfl (w.heap.size + 1) 32 .i64 0 rfl rfl _ info_i C32.out F32.out W4 HW4.out ?_)
    | (refine wpList_store_i rfl 3 (.tmp 59) (.const (.int .i64 0)) rfl (w.heap.size + 1) 33 .i64 0 rfl rfl _ info_i C33.out F33.out W5 HW5.out ?_)
    | (refine wpList_store_asC rfl 27 (.tmp 61) (.tmp 60) rfl (w.heap.size + 1) 35 (pcells 0 0 zeros).toArray rfl rfl THP info_patch HONP.out W6 HW6.out ?_)
    | (refine wpList_load_mid rfl 32 (.tmp 3) rfl (w.heap.size + 1) 0 rfl yc _ RGZ huc rfl (by rw [HLZ.out]; exact info_cm) ?_; simp only [Act.put, List.setIfInBounds_toArray, List.set_cons_zero, List.set_cons_succ])
    | fail)
  refine HZZ.out.mono ?_
  rintro e wz ⟨rfl, hbz⟩
  have HSZ := Lib.hid (HS6.out.later hbz)
  have kz_32 := HSZ.out.a.cell HPX.out.2.2.2.1
  have kz_33 := HSZ.out.a.cell HPX.out.2.2.2.2.1
  have HBE := Lib.hid HSZ.out.be
  clear hbz
  have RP := HSZ.out.a.range 35 (cmP x) (cm_patch h.e8 h.p8)
  obtain ⟨xp, hxp⟩ : ∃ c, c = cmP x := ⟨_, rfl⟩
  rw [← hxp] at HPC HPL RP
  clear hxp
  go_wp2_with (first
    | (refine wpList_load_mid rfl 32 (.tmp 1) rfl w.heap.size 0 rfl xc _ RG0 huc rfl (by rw [HLC.out]; exact info_cm) ?_
       simp only [Act.put, List.setIfInBounds_toArray, List.set_cons_zero, List.set_cons_succ])
    | (refine wpList_store_asC rfl 32 (.tmp 3) (.tmp 4) rfl (w.heap.size + 1) 0 xc.toArray rfl rfl (by simpa [HLC.out] using TH1) (by simpa [HLC.out] using info_cm) HON.out W1 HW1.out ?_)
    | (refine wpList_load_g (by rfl) 27 (.tmp 85) rfl w.heap.size 35 rfl xp _ RP hup rfl (by rw [HPL.out]; exact info_patch) ?_; simp only [Act.put, List.setIfInBounds_toArray, List.set_cons_zero, List.set_cons_succ])
    | fail)
  refine (HPC.out _).mono ?_
  rintro e wy ⟨rfl, hby⟩
  have HBE := Lib.hid (HSZ.out.later hby).be
  clear hby kz_32 kz_33
  go_wp2_with (first
    | (refine wpList_load_mid rfl 32 (.tmp 1) rfl w.heap.size 0 rfl xc _ RG0 huc rfl (by rw [HLC.out]; exact info_cm) ?_
       simp only [Act.put, List.setIfInBounds_toArray, List.set_cons_zero, List.set_cons_succ])
    | (refine wpList_store_asC rfl 32 (.tmp 3) (.tmp 4) rfl (w.heap.size + 1) 0 xc.toArray rfl rfl (by simpa [HLC.out] using TH1) (by simpa [HLC.out] using info_cm) HON.out W1 HW1.out ?_)
    | fail)
  go_ret
  exact ⟨by first | rfl | (rw [HT.out]; rfl), HBE.out⟩
end Go.Proofs.Ytnhcjadkbogioaa

/- Commands: which may be, by the document: 2, g. -/
namespace Go.Proofs.Ytnhcjadkbogioaa
set_option linter.unusedVariables false
set_option linter.unusedSimpArgs false
open Go Go.RowKit OctM

set_option maxRecDepth 100000 in
set_option maxHeartbeats 6400000 in
theorem rccheck_2g (x : Cm) (w : World) (h : okCm w x) (hk : x.kd = 2) (hg : 0 ≤ x.dv) (hl : x.dv < 6) (r1 : 1 ≤ x.rq) (r2 : x.rq ≤ 1099511627776) (z : cz (y2 x)) (i1 : 1 ≤ x.id) (hx : x.id < 1073741824) (b1 : 1 ≤ x.bs) (b2 : x.bs ≤ 1099511627776) (hp : pchk x.pm (x.pl.toNat : Int) x.pf = 0) :
    Calls Try.prog 15 #[.agg (cmc x).toArray] w fun e w' => e = .returned (.bool (decide (cok x))) ∧ Below w.heap.size w w' := by
  have hue := Try.underlying29
  have hup := Try.underlying27
  have huc := Try.underlying32
  obtain ⟨hs1, hth⟩ := CkSt.new w x h.e8 h.p8
  have B0 := Blk.new w (cmc x) 32
  have RG0 := B0.range 0 (cmc x) (by rw [List.drop_zero, List.take_length])
  have honc := all_oneCell_toArray (cmc_one x)
  have HLC := Lib.hid (cmc_len h.e8 h.p8)
  have HPX := Lib.hid (cm_at h.e8 h.p8)
  obtain ⟨xc, hxc⟩ : ∃ c, c = cmc x := ⟨_, rfl⟩
  obtain ⟨W1, hW1⟩ : ∃ W1, W1 = ((w.alloc (.cells (cmc x).toArray 32)).alloc (.cells #[.int .i64 0, .int .i64 0, .int .i64 0, .int .i64 0, .int .u32 0, .int .u32 0, .int .i64 0, .int .i64 0, .string ⟨#[]⟩, .int .i64 0, .int .i64 0, .string ⟨#[]⟩, .int .i64 0, .int .i64 0, .string ⟨#[]⟩, .int .i64 0, .int .i64 0, .string ⟨#[]⟩, .int .i64 0, .int .i64 0, .string ⟨#[]⟩, .int .i64 0, .int .i64 0, .string ⟨#[]⟩, .int .i64 0, .int .i64 0, .string ⟨#[]⟩, .int .i64 0, .int .i64 0, .string ⟨#[]⟩, .int .i64 0, .int .i64 0, .int .i64 0, .int .i64 0, .int .i64 0, .int .u32 0, .int .u32 0, .int .i64 0, .int .i64 0, .string ⟨#[]⟩, .int .i64 0, .int .i64 0, .string ⟨#[]⟩, .int .i64 0, .int .i64 0, .string ⟨#[]⟩, .int .i64 0, .int .i64 0, .string ⟨#[]⟩, .int .i64 0, .int .i64 0, .string ⟨#[]⟩, .int .i64 0, .int .i64 0, .string ⟨#[]⟩, .int .i64 0, .int .i64 0, .string ⟨#[]⟩, .int .i64 0, .int .i64 0, .string ⟨#[]⟩, .slice none 0 0, .int .u32 0] 32)).setCells (w.heap.size + 1) 0 (cmc x) := ⟨_, rfl⟩
  rw [← hW1] at hs1
  rw [← hxc] at hW1 RG0 honc HLC hth ⊢
  have HS1 := Lib.hid hs1
  have HW1 := Lib.hid hW1
  have HON := Lib.hid honc
  have TH1 := hth
  obtain ⟨R, hR⟩ : ∃ R, R = decide (cok x) := ⟨_, rfl⟩
  rw [← hR]
  have HR := Lib.hid hR
  have e1 : (x.kd == 1) = false := by rw [hk]; rfl
  have e5 : (x.kd == 5) = false := by rw [hk]; rfl
  have e2 : (x.kd == 2) = true := by rw [hk]; rfl
  have e3 : (x.kd == 3) = false := by rw [hk]; rfl
  have e4 : (x.kd == 4) = false := by rw [hk]; rfl
  have ka_kd := HS1.out.a.cell HPX.out.1
  clear hs1 hth hxc hW1 honc hR B0
  have S2 := HS1.out.set 30 (.int .i64 0) (cm_sets HS1.out.y1 HS1.out.y2 0 0#32).2.1 HS1.out.y1 HS1.out.y2
  have S2 : CkSt w x _ (W1.setCell ⟨w.heap.size + 1, 30, none⟩ (.int .i64 0)) := S2
  obtain ⟨W2, hW2⟩ : ∃ W, W = W1.setCell ⟨w.heap.size + 1, 30, none⟩ (.int .i64 0) := ⟨_, rfl⟩
  rw [← hW2] at S2
  have C30 := Lib.hid (HS1.out.b.cell (cm_at HS1.out.y1 HS1.out.y2).2.1)
  have F30 := Lib.hid (HS1.out.b.frozen 30)
  have HW2 := Lib.hid hW2
  have S2 := Lib.hid S2
  clear hW2
  have S3 := S2.out.set 31 (.int .i64 0) (cm_sets S2.out.y1 S2.out.y2 0 0#32).2.2.1 S2.out.y1 S2.out.y2
  have S3 : CkSt w x _ (W2.setCell ⟨w.heap.size + 1, 31, none⟩ (.int .i64 0)) := S3
  obtain ⟨W3, hW3⟩ : ∃ W, W = W2.setCell ⟨w.heap.size + 1, 31, none⟩ (.int .i64 0) := ⟨_, rfl⟩
  rw [← hW3] at S3
  have C31 := Lib.hid (S2.out.b.cell (cm_at S2.out.y1 S2.out.y2).2.2.1)
  have F31 := Lib.hid (S2.out.b.frozen 31)
  have HW3 := Lib.hid hW3
  have S3 := Lib.hid S3
  clear hW3
  have kc_kd := S3.out.a.cell HPX.out.1
  have kc_30 := S3.out.a.cell HPX.out.2.1
  have kc_31 := S3.out.a.cell HPX.out.2.2.1
  have S4 := S3.out.set 32 (.int .i64 0) (cm_sets S3.out.y1 S3.out.y2 0 0#32).2.2.2.1 S3.out.y1 S3.out.y2
  have S4 : CkSt w x _ (W3.setCell ⟨w.heap.size + 1, 32, none⟩ (.int .i64 0)) := S4
  obtain ⟨W4, hW4⟩ : ∃ W, W = W3.setCell ⟨w.heap.size + 1, 32, none⟩ (.int .i64 0) := ⟨_, rfl⟩
  rw [← hW4] at S4
  have C32 := Lib.hid (S3.out.b.cell (cm_at S3.out.y1 S3.out.y2).2.2.2.1)
  have F32 := Lib.hid (S3.out.b.frozen 32)
  have HW4 := Lib.hid hW4
  have S4 := Lib.hid S4
  clear hW4
  have S5 := S4.out.set 33 (.int .i64 0) (cm_sets S4.out.y1 S4.out.y2 0 0#32).2.2.2.2.1 S4.out.y1 S4.out.y2
  have S5 : CkSt w x _ (W4.setCell ⟨w.heap.size + 1, 33, none⟩ (.int .i64 0)) := S5
  obtain ⟨W5, hW5⟩ : ∃ W, W = W4.setCell ⟨w.heap.size + 1, 33, none⟩ (.int .i64 0) := ⟨_, rfl⟩
  rw [← hW5] at S5
  have C33 := Lib.hid (S4.out.b.cell (cm_at S4.out.y1 S4.out.y2).2.2.2.2.1)
  have F33 := Lib.hid (S4.out.b.frozen 33)
  have HW5 := Lib.hid hW5
  have S5 := Lib.hid S5
  clear hW5
  have hs6 := S5.out.setP
  have THP := S5.out.b.there 35 26 (by rw [cmc_len S5.out.y1 S5.out.y2]; omega)
  obtain ⟨W6, hW6⟩ : ∃ W, W = W5.setCells (w.heap.size + 1) 35 (pcells 0 0 zeros) := ⟨_, rfl⟩
  rw [← hW6] at hs6
  have hs6 : CkSt w x (q2 x) W6 := hs6
  have HS6 := Lib.hid hs6
  have HW6 := Lib.hid hW6
  have HONP := Lib.hid (all_oneCell_toArray (pcells_one 0 0 zeros))
  clear hs6 hW6
  have hzz := rczero_any (q2 x) W6 ⟨HS6.out.y1, HS6.out.y2, h.len, h.cap, h.max, ((h.see.below HS6.out.be).more HS6.out.be.size)⟩
  have RGZ := HS6.out.b.range 0 (cmc (q2 x)) (by rw [List.drop_zero, List.take_length])
  have HLZ := Lib.hid (cmc_len HS6.out.y1 HS6.out.y2)
  rw [decide_eq_true (show cz (q2 x) from z)] at hzz
  obtain ⟨yc, hyc⟩ : ∃ c, c = cmc (q2 x) := ⟨_, rfl⟩
  rw [← hyc] at hzz RGZ HLZ
  have HZZ := Lib.hid hzz
  clear hzz hyc
  have q_hg : decide (x.dv < 0) = false := decide_eq_false (by omega)
  have q_hl : decide (6 ≤ x.dv) = false := decide_eq_false (by omega)
  have q_r1 : decide (x.rq < 1) = false := decide_eq_false (by omega)
  have q_r2 : decide (1099511627776 < x.rq) = false := decide_eq_false (by omega)
  have q_i1 : decide (1 ≤ x.id) = true := decide_eq_true (by omega)
  have q_hx : decide (x.id < 1073741824) = true := decide_eq_true (by omega)
  have q_b1 : decide (1 ≤ x.bs) = true := decide_eq_true (by omega)
  have q_b2 : decide (x.bs ≤ 1099511627776) = true := decide_eq_true (by omega)
  have HPC : Hid (∀ wx : World, Calls Try.prog 38 #[.agg (cmP x).toArray] wx fun e w' => e = .returned (.int .i64 (pchk x.pm (x.pl.toNat : Int) x.pf)) ∧ Below wx.heap.size wx w') := Lib.hid (fun wx => rpcheck_any x.pm (x.pl.toNat : Int) x.pf wx h.p8)
  have HPL := Lib.hid (cmP_len h.p8)
  obtain ⟨ip, hip⟩ : ∃ c, c = pchk x.pm (x.pl.toNat : Int) x.pf := ⟨_, rfl⟩
  rw [← hip] at HPC
  have HIP := Lib.hid hip
  clear hip
  have b0 : (ip == 0) = true := by rw [HIP.out]; simp [hp]
  have hHT : R = true := by rw [HR.out]; exact decide_eq_true ((cok_2 hk).2 ⟨⟨hg, hl⟩, ⟨r1, r2⟩, ⟨i1, hx⟩, ⟨b1, b2⟩, hp, z⟩)
  have HT := Lib.hid hHT
  clear hHT
  clear hk
  go_enter Try.func15, Try.ntmps15
  go_wp2_with (first
    | (refine wpList_load_mid rfl 32 (.tmp 1) rfl w.heap.size 0 rfl xc _ RG0 huc rfl (by rw [HLC.out]; exact info_cm) ?_
       simp only [Act.put, List.setIfInBounds_toArray, List.set_cons_zero, List.set_cons_succ])
    | (refine wpList_store_asC rfl 32 (.tmp 3) (.tmp 4) rfl (w.heap.size + 1) 0 xc.toArray rfl rfl (by simpa [HLC.out] using TH1) (by simpa [HLC.out] using info_cm) HON.out W1 HW1.out ?_)
    | (refine wpList_store_i rfl 3 (.tmp 34) (.const (.int .i64 0)) rfl (w.heap.size + 1) 30 .i64 0 rfl rfl _ info_i C30.out F30.out W2 HW2.out ?_)
    | (refine wpList_store_i rfl 3 (.tmp 35) (.const (.int .i64 0)) rfl (w.heap.size + 1) 31 .i64 0 rfl rfl _ info_i C31.out F31.out W3 HW3.out ?_)
    | (refine wpList_store_i rfl 3 (.tmp 58) (.const (.int .i64 0)) rfl (w.heap.size + 1) 32 .i64 0 rfl rfl _ info_i C32.out F32.out W4 HW4.out ?_)
    | (refine wpList_store_i rfl 3 (.tmp 59) (.const (.int .i64 0)) rfl (w.heap.size + 1) 33 .i64 0 rfl rfl _ info_i C33.out F33.out W5 HW5.out ?_)
    | (refine wpList_store_asC rfl 27 (.tmp 61) (.tmp 60) rfl (w.heap.size + 1) 35 (pcells 0 0 zeros).toArray rfl rfl THP info_patch HONP.out W6 HW6.out ?_)
    | (refine wpList_load_mid rfl 32 (.tmp 3) rfl (w.heap.size + 1) 0 rfl yc _ RGZ huc rfl (by rw [HLZ.out]; exact info_cm) ?_; simp only [Act.put, List.setIfInBounds_toArray, List.set_cons_zero, List.set_cons_succ])
    | fail)
  refine HZZ.out.mono ?_
  rintro e wz ⟨rfl, hbz⟩
  have HSZ := Lib.hid (HS6.out.later hbz)
  have kz_32 := HSZ.out.a.cell HPX.out.2.2.2.1
  have kz_33 := HSZ.out.a.cell HPX.out.2.2.2.2.1
  have HBE := Lib.hid HSZ.out.be
  clear hbz
  have RP := HSZ.out.a.range 35 (cmP x) (cm_patch h.e8 h.p8)
  obtain ⟨xp, hxp⟩ : ∃ c, c = cmP x := ⟨_, rfl⟩
  rw [← hxp] at HPC HPL RP
  clear hxp
  go_wp2_with (first
    | (refine wpList_load_mid rfl 32 (.tmp 1) rfl w.heap.size 0 rfl xc _ RG0 huc rfl (by rw [HLC.out]; exact info_cm) ?_
       simp only [Act.put, List.setIfInBounds_toArray, List.set_cons_zero, List.set_cons_succ])
    | (refine wpList_store_asC rfl 32 (.tmp 3) (.tmp 4) rfl (w.heap.size + 1) 0 xc.toArray rfl rfl (by simpa [HLC.out] using TH1) (by simpa [HLC.out] using info_cm) HON.out W1 HW1.out ?_)
    | (refine wpList_load_g (by rfl) 27 (.tmp 85) rfl w.heap.size 35 rfl xp _ RP hup rfl (by rw [HPL.out]; exact info_patch) ?_; simp only [Act.put, List.setIfInBounds_toArray, List.set_cons_zero, List.set_cons_succ])
    | fail)
  refine (HPC.out _).mono ?_
  rintro e wy ⟨rfl, hby⟩
  have HBE := Lib.hid (HSZ.out.later hby).be
  clear hby kz_32 kz_33
  go_wp2_with (first
    | (refine wpList_load_mid rfl 32 (.tmp 1) rfl w.heap.size 0 rfl xc _ RG0 huc rfl (by rw [HLC.out]; exact info_cm) ?_
       simp only [Act.put, List.setIfInBounds_toArray, List.set_cons_zero, List.set_cons_succ])
    | (refine wpList_store_asC rfl 32 (.tmp 3) (.tmp 4) rfl (w.heap.size + 1) 0 xc.toArray rfl rfl (by simpa [HLC.out] using TH1) (by simpa [HLC.out] using info_cm) HON.out W1 HW1.out ?_)
    | fail)
  go_ret
  exact ⟨by first | rfl | (rw [HT.out]; rfl), HBE.out⟩
end Go.Proofs.Ytnhcjadkbogioaa

/- Commands: which may be, by the document: all. -/
namespace Go.Proofs.Ytnhcjadkbogioaa
set_option linter.unusedVariables false
set_option linter.unusedSimpArgs false
open Go Go.RowKit OctM

theorem rccheck_1 (x : Cm) (w : World) (h : okCm w x) (hk : x.kd = 1) :
    Calls Try.prog 15 #[.agg (cmc x).toArray] w fun e w' => e = .returned (.bool (decide (cok x))) ∧ Below w.heap.size w w' := by
  by_cases z : cz (y1 x)
  case neg => exact rccheck_1a x w h hk z
  by_cases he : echk x.ek x.eid x.eg x.em (x.el.toNat : Int) x.ef = 0
  case neg => exact rccheck_1b x w h hk z he
  exact rccheck_1c x w h hk z he

theorem rccheck_5 (x : Cm) (w : World) (h : okCm w x) (hk : x.kd = 5) :
    Calls Try.prog 15 #[.agg (cmc x).toArray] w fun e w' => e = .returned (.bool (decide (cok x))) ∧ Below w.heap.size w w' := by
  by_cases z : cz (y5 x)
  case neg => exact rccheck_5a x w h hk z
  by_cases k0 : 0 ≤ x.kp
  case neg => exact rccheck_5b x w h hk z k0
  by_cases k1 : x.kp ≤ 1099511627776
  case neg => exact rccheck_5c x w h hk z k0 k1
  exact rccheck_5d x w h hk z k0 k1

theorem rccheck_3 (x : Cm) (w : World) (h : okCm w x) (hk : x.kd = 3) (hg : 0 ≤ x.dv) (hl : x.dv < 6) (r1 : 1 ≤ x.rq) (r2 : x.rq ≤ 1099511627776) :
    Calls Try.prog 15 #[.agg (cmc x).toArray] w fun e w' => e = .returned (.bool (decide (cok x))) ∧ Below w.heap.size w w' := by
  by_cases z : cz (y3 x)
  case neg => exact rccheck_3a x w h hk hg hl r1 r2 z
  by_cases hp : lchk x.f = 0
  case neg => exact rccheck_3b x w h hk hg hl r1 r2 z hp
  by_cases hm : x.ms.toNat ≤ 511
  case neg => exact rccheck_3c x w h hk hg hl r1 r2 z hp hm
  exact rccheck_3d x w h hk hg hl r1 r2 z hp hm

theorem rccheck_2 (x : Cm) (w : World) (h : okCm w x) (hk : x.kd = 2) (hg : 0 ≤ x.dv) (hl : x.dv < 6) (r1 : 1 ≤ x.rq) (r2 : x.rq ≤ 1099511627776) :
    Calls Try.prog 15 #[.agg (cmc x).toArray] w fun e w' => e = .returned (.bool (decide (cok x))) ∧ Below w.heap.size w w' := by
  by_cases z : cz (y2 x)
  case neg => exact rccheck_2a x w h hk hg hl r1 r2 z
  by_cases i1 : 1 ≤ x.id
  case neg => exact rccheck_2b x w h hk hg hl r1 r2 z i1
  by_cases hx : x.id < 1073741824
  case neg => exact rccheck_2c x w h hk hg hl r1 r2 z i1 hx
  by_cases b1 : 1 ≤ x.bs
  case neg => exact rccheck_2d x w h hk hg hl r1 r2 z i1 hx b1
  by_cases b2 : x.bs ≤ 1099511627776
  case neg => exact rccheck_2e x w h hk hg hl r1 r2 z i1 hx b1 b2
  by_cases hp : pchk x.pm (x.pl.toNat : Int) x.pf = 0
  case neg => exact rccheck_2f x w h hk hg hl r1 r2 z i1 hx b1 b2 hp
  exact rccheck_2g x w h hk hg hl r1 r2 z i1 hx b1 b2 hp

theorem rccheck_any (x : Cm) (w : World) (h : okCm w x) :
    Calls Try.prog 15 #[.agg (cmc x).toArray] w fun e w' => e = .returned (.bool (decide (cok x))) ∧ Below w.heap.size w w' := by
  by_cases hk1 : x.kd = 1
  · exact rccheck_1 x w h hk1
  by_cases hk5 : x.kd = 5
  · exact rccheck_5 x w h hk5
  by_cases hg : 0 ≤ x.dv
  case neg => exact rccheck_Na x w h hk1 hk5 hg
  by_cases hl : x.dv < 6
  case neg => exact rccheck_Nb x w h hk1 hk5 hg hl
  by_cases r1 : 1 ≤ x.rq
  case neg => exact rccheck_Nc x w h hk1 hk5 hg hl r1
  by_cases r2 : x.rq ≤ 1099511627776
  case neg => exact rccheck_Nd x w h hk1 hk5 hg hl r1 r2
  by_cases hk2 : x.kd = 2
  · exact rccheck_2 x w h hk2 hg hl r1 r2
  by_cases hk3 : x.kd = 3
  · exact rccheck_3 x w h hk3 hg hl r1 r2
  by_cases hk4 : x.kd = 4
  · exact rccheck_4a x w h hk4 hg hl r1 r2
  · exact rccheck_0a x w h (by simp [hk1, hk2, hk3, hk4, hk5]) hg hl r1 r2
end Go.Proofs.Ytnhcjadkbogioaa

/- Values in order; texts folded and in quotes: the mathematics. -/
namespace Go.Proofs.Ytnhcjadkbogioaa
open Go
namespace ValM

theorem bl_irrefl : ∀ l : List UInt8, Op.bytesLess l l = false
  | [] => rfl
  | x :: l => by
    unfold Op.bytesLess
    rw [bl_irrefl l]
    simp
theorem bl_tri : ∀ x y : List UInt8, Op.bytesLess x y = true ∨ x = y ∨ Op.bytesLess y x = true
  | [], [] => .inr (.inl rfl)
  | [], _ :: _ => .inl rfl
  | _ :: _, [] => .inr (.inr rfl)
  | a :: x, b :: y => by
    by_cases h1 : a < b
    · exact .inl (by unfold Op.bytesLess; simp [h1])
    · by_cases h2 : b < a
      · exact .inr (.inr (by unfold Op.bytesLess; simp [h2]))
      · have e : a = b := by
          apply UInt8.toNat_inj.1
          rw [UInt8.lt_iff_toNat_lt] at h1 h2
          omega
        subst e
        rcases bl_tri x y with h | h | h
        · exact .inl (by unfold Op.bytesLess; simp [h])
        · exact .inr (.inl (by rw [h]))
        · exact .inr (.inr (by unfold Op.bytesLess; simp [h]))
theorem bl_trans : ∀ {x y z : List UInt8}, Op.bytesLess x y = true → Op.bytesLess y z = true → Op.bytesLess x z = true
  | _, [], z, h, _ => by cases ‹List UInt8› <;> simp [Op.bytesLess] at h
  | [], b :: y, [], _, h => by simp [Op.bytesLess] at h
  | [], b :: y, c :: z, _, _ => rfl
  | a :: x, b :: y, [], _, h => by simp [Op.bytesLess] at h
  | a :: x, b :: y, c :: z, h, k => by
    unfold Op.bytesLess at h k ⊢
    simp only [Bool.or_eq_true, decide_eq_true_eq, Bool.and_eq_true, beq_iff_eq] at h k ⊢
    rcases h with h | ⟨rfl, h⟩
    · rcases k with k | ⟨rfl, k⟩
      · left; rw [UInt8.lt_iff_toNat_lt] at *; omega
      · exact .inl h
    · rcases k with k | ⟨rfl, k⟩
      · exact .inl k
      · exact .inr ⟨rfl, bl_trans h k⟩
theorem bl_asymm {x y : List UInt8} (h : Op.bytesLess x y = true) : Op.bytesLess y x = false := by
  cases k : Op.bytesLess y x
  · rfl
  · have := bl_trans h k
    rw [bl_irrefl] at this
    cases this

def cmpI (a b : Int) : Int := if a < b then -1 else if b < a then 1 else 0
def cmpS (x y : List UInt8) : Int := if Op.bytesLess x y = true then -1 else if Op.bytesLess y x = true then 1 else 0
theorem cmpI_zero (a b : Int) : cmpI a b = 0 ↔ a = b := by unfold cmpI; split <;> (try split) <;> constructor <;> intro h <;> omega
theorem cmpS_zero (x y : List UInt8) : cmpS x y = 0 ↔ x = y := by
  unfold cmpS
  rcases bl_tri x y with h | h | h
  · rw [if_pos h]
    constructor
    · intro e; omega
    · intro e; subst e; rw [bl_irrefl] at h; cases h
  · subst h; rw [bl_irrefl]; simp
  · rw [if_neg (by rw [bl_asymm h]; simp), if_pos h]
    constructor
    · intro e; omega
    · intro e; subst e; rw [bl_irrefl] at h; cases h
abbrev V := Int × Int × ByteArray
/-- Which value stands ahead. -/
def vcmp (a b : V) : Int := if cmpI a.1 b.1 ≠ 0 then cmpI a.1 b.1 else if cmpI a.2.1 b.2.1 ≠ 0 then cmpI a.2.1 b.2.1 else cmpS a.2.2.data.toList b.2.2.data.toList
theorem bytes_ext {s t : ByteArray} (h : s.data.toList = t.data.toList) : s = t := by
  apply ByteArray.ext
  apply Array.ext'
  exact h
theorem vcmp_zero (a b : V) : vcmp a b = 0 ↔ a = b := by
  obtain ⟨a1, a2, a3⟩ := a
  obtain ⟨b1, b2, b3⟩ := b
  unfold vcmp
  constructor
  · intro h
    by_cases e1 : cmpI a1 b1 = 0
    · by_cases e2 : cmpI a2 b2 = 0
      · rw [if_neg (by simpa using e1), if_neg (by simpa using e2)] at h
        have := bytes_ext ((cmpS_zero _ _).1 h)
        rw [(cmpI_zero a1 b1).1 e1, (cmpI_zero a2 b2).1 e2]
        simp only at this
        rw [this]
      · rw [if_neg (by simpa using e1), if_pos (by simpa using e2)] at h
        exact absurd h (by simpa using e2)
    · rw [if_pos (by simpa using e1)] at h
      exact absurd h (by simpa using e1)
  · intro h
    injection h with h1 h
    injection h with h2 h3
    subst h1 h2 h3
    rw [if_neg (by simp [(cmpI_zero a1 a1).2 rfl]), if_neg (by simp [(cmpI_zero a2 a2).2 rfl])]
    exact (cmpS_zero _ _).2 rfl
end ValM
end Go.Proofs.Ytnhcjadkbogioaa
