/- Commands: which may be, by the document: N, d. -/
import Derived.Test.YtnhcjadkbogioaaK18
namespace Go.Proofs.Ytnhcjadkbogioaa
set_option linter.unusedVariables false
set_option linter.unusedSimpArgs false
open Go Go.RowKit OctM

set_option maxRecDepth 100000 in
set_option maxHeartbeats 6400000 in
theorem rccheck_Nd (x : Cm) (w : World) (h : okCm w x) (hk1 : ¬ x.kd = 1) (hk5 : ¬ x.kd = 5) (hg : 0 ≤ x.dv) (hl : x.dv < 6) (r1 : 1 ≤ x.rq) (r2 : ¬ (x.rq ≤ 1099511627776)) :
    Calls Try.prog 15 #[.agg (cmc x).toArray] w fun e w' => e = .returned (.bool (decide (cok x))) ∧ Below w.heap.size w w' := by
  have hue := Try.underlying29
  have hup := Try.underlying27
  have huc := Try.underlying32
  obtain ⟨hs1, hth⟩ := CkSt.new w x h.e8 h.p8
  have B0 := Blk.new w (cmc x) 32
  have RG0 := B0.range 0 (cmc x) (by rw [List.drop_zero, List.take_length])
  have honc := all_oneCell_toArray (cmc_one x)
  have HLC := Lib.hid (cmc_len h.e8 h.p8)
  have HPX := Lib.hid (cm_at h.e8 h.p8)
  obtain ⟨xc, hxc⟩ : ∃ c, c = cmc x := ⟨_, rfl⟩
  obtain ⟨W1, hW1⟩ : ∃ W1, W1 = ((w.alloc (.cells (cmc x).toArray 32)).alloc (.cells #[.int .i64 0, .int .i64 0, .int .i64 0, .int .i64 0, .int .u32 0, .int .u32 0, .int .i64 0, .int .i64 0, .string ⟨#[]⟩, .int .i64 0, .int .i64 0, .string ⟨#[]⟩, .int .i64 0, .int .i64 0, .string ⟨#[]⟩, .int .i64 0, .int .i64 0, .string ⟨#[]⟩, .int .i64 0, .int .i64 0, .string ⟨#[]⟩, .int .i64 0, .int .i64 0, .string ⟨#[]⟩, .int .i64 0, .int .i64 0, .string ⟨#[]⟩, .int .i64 0, .int .i64 0, .string ⟨#[]⟩, .int .i64 0, .int .i64 0, .int .i64 0, .int .i64 0, .int .i64 0, .int .u32 0, .int .u32 0, .int .i64 0, .int .i64 0, .string ⟨#[]⟩, .int .i64 0, .int .i64 0, .string ⟨#[]⟩, .int .i64 0, .int .i64 0, .string ⟨#[]⟩, .int .i64 0, .int .i64 0, .string ⟨#[]⟩, .int .i64 0, .int .i64 0, .string ⟨#[]⟩, .int .i64 0, .int .i64 0, .string ⟨#[]⟩, .int .i64 0, .int .i64 0, .string ⟨#[]⟩, .int .i64 0, .int .i64 0, .string ⟨#[]⟩, .slice none 0 0, .int .u32 0] 32)).setCells (w.heap.size + 1) 0 (cmc x) := ⟨_, rfl⟩
  rw [← hW1] at hs1
  rw [← hxc] at hW1 RG0 honc HLC hth ⊢
  have HS1 := Lib.hid hs1
  have HW1 := Lib.hid hW1
  have HON := Lib.hid honc
  have TH1 := hth
  obtain ⟨R, hR⟩ : ∃ R, R = decide (cok x) := ⟨_, rfl⟩
  rw [← hR]
  have HR := Lib.hid hR
  have e1 : (x.kd == 1) = false := by simp [hk1]
  have e5 : (x.kd == 5) = false := by simp [hk5]
  have ka_kd := HS1.out.a.cell HPX.out.1
  clear hs1 hth hxc hW1 honc hR B0
  have S2 := HS1.out.set 30 (.int .i64 0) (cm_sets HS1.out.y1 HS1.out.y2 0 0#32).2.1 HS1.out.y1 HS1.out.y2
  have S2 : CkSt w x _ (W1.setCell ⟨w.heap.size + 1, 30, none⟩ (.int .i64 0)) := S2
  obtain ⟨W2, hW2⟩ : ∃ W, W = W1.setCell ⟨w.heap.size + 1, 30, none⟩ (.int .i64 0) := ⟨_, rfl⟩
  rw [← hW2] at S2
  have C30 := Lib.hid (HS1.out.b.cell (cm_at HS1.out.y1 HS1.out.y2).2.1)
  have F30 := Lib.hid (HS1.out.b.frozen 30)
  have HW2 := Lib.hid hW2
  have S2 := Lib.hid S2
  clear hW2
  have S3 := S2.out.set 31 (.int .i64 0) (cm_sets S2.out.y1 S2.out.y2 0 0#32).2.2.1 S2.out.y1 S2.out.y2
  have S3 : CkSt w x _ (W2.setCell ⟨w.heap.size + 1, 31, none⟩ (.int .i64 0)) := S3
  obtain ⟨W3, hW3⟩ : ∃ W, W = W2.setCell ⟨w.heap.size + 1, 31, none⟩ (.int .i64 0) := ⟨_, rfl⟩
  rw [← hW3] at S3
  have C31 := Lib.hid (S2.out.b.cell (cm_at S2.out.y1 S2.out.y2).2.2.1)
  have F31 := Lib.hid (S2.out.b.frozen 31)
  have HW3 := Lib.hid hW3
  have S3 := Lib.hid S3
  clear hW3
  have kc_kd := S3.out.a.cell HPX.out.1
  have kc_30 := S3.out.a.cell HPX.out.2.1
  have kc_31 := S3.out.a.cell HPX.out.2.2.1
  have q_hg : decide (x.dv < 0) = false := decide_eq_false (by omega)
  have q_hl : decide (6 ≤ x.dv) = false := decide_eq_false (by omega)
  have q_r1 : decide (x.rq < 1) = false := decide_eq_false (by omega)
  have q_r2 : decide (1099511627776 < x.rq) = true := decide_eq_true (by omega)
  have hHT : R = false := by rw [HR.out]; exact decide_eq_false (fun k => r2 (cok_n hk1 hk5 k).2.2)
  have HT := Lib.hid hHT
  clear hHT
  have HBE := Lib.hid S3.out.be
  clear hk1 hk5
  go_enter Try.func15, Try.ntmps15
  go_wp2_with (first
    | (refine wpList_load_mid rfl 32 (.tmp 1) rfl w.heap.size 0 rfl xc _ RG0 huc rfl (by rw [HLC.out]; exact info_cm) ?_
       simp only [Act.put, List.setIfInBounds_toArray, List.set_cons_zero, List.set_cons_succ])
    | (refine wpList_store_asC rfl 32 (.tmp 3) (.tmp 4) rfl (w.heap.size + 1) 0 xc.toArray rfl rfl (by simpa [HLC.out] using TH1) (by simpa [HLC.out] using info_cm) HON.out W1 HW1.out ?_)
    | (refine wpList_store_i rfl 3 (.tmp 34) (.const (.int .i64 0)) rfl (w.heap.size + 1) 30 .i64 0 rfl rfl _ info_i C30.out F30.out W2 HW2.out ?_)
    | (refine wpList_store_i rfl 3 (.tmp 35) (.const (.int .i64 0)) rfl (w.heap.size + 1) 31 .i64 0 rfl rfl _ info_i C31.out F31.out W3 HW3.out ?_)
    | fail)
  go_ret
  exact ⟨by first | rfl | (rw [HT.out]; rfl), HBE.out⟩
end Go.Proofs.Ytnhcjadkbogioaa

/- Commands: which may be, by the document: 0, a. -/
namespace Go.Proofs.Ytnhcjadkbogioaa
set_option linter.unusedVariables false
set_option linter.unusedSimpArgs false
open Go Go.RowKit OctM

set_option maxRecDepth 100000 in
set_option maxHeartbeats 6400000 in
theorem rccheck_0a (x : Cm) (w : World) (h : okCm w x) (hk : ¬ (x.kd = 1 ∨ x.kd = 2 ∨ x.kd = 3 ∨ x.kd = 4 ∨ x.kd = 5)) (hg : 0 ≤ x.dv) (hl : x.dv < 6) (r1 : 1 ≤ x.rq) (r2 : x.rq ≤ 1099511627776) :
    Calls Try.prog 15 #[.agg (cmc x).toArray] w fun e w' => e = .returned (.bool (decide (cok x))) ∧ Below w.heap.size w w' := by
  have hue := Try.underlying29
  have hup := Try.underlying27
  have huc := Try.underlying32
  obtain ⟨hs1, hth⟩ := CkSt.new w x h.e8 h.p8
  have B0 := Blk.new w (cmc x) 32
  have RG0 := B0.range 0 (cmc x) (by rw [List.drop_zero, List.take_length])
  have honc := all_oneCell_toArray (cmc_one x)
  have HLC := Lib.hid (cmc_len h.e8 h.p8)
  have HPX := Lib.hid (cm_at h.e8 h.p8)
  obtain ⟨xc, hxc⟩ : ∃ c, c = cmc x := ⟨_, rfl⟩
  obtain ⟨W1, hW1⟩ : ∃ W1, W1 = ((w.alloc (.cells (cmc x).toArray 32)).alloc (.cells #[.int .i64 0, .int .i64 0, .int .i64 0, .int .i64 0, .int .u32 0, .int .u32 0, .int .i64 0, .int .i64 0, .string ⟨#[]⟩, .int .i64 0, .int .i64 0, .string ⟨#[]⟩, .int .i64 0, .int .i64 0, .string ⟨#[]⟩, .int .i64 0, .int .i64 0, .string ⟨#[]⟩, .int .i64 0, .int .i64 0, .string ⟨#[]⟩, .int .i64 0, .int .i64 0, .string ⟨#[]⟩, .int .i64 0, .int .i64 0, .string ⟨#[]⟩, .int .i64 0, .int .i64 0, .string ⟨#[]⟩, .int .i64 0, .int .i64 0, .int .i64 0, .int .i64 0, .int .i64 0, .int .u32 0, .int .u32 0, .int .i64 0, .int .i64 0, .string ⟨#[]⟩, .int .i64 0, .int .i64 0, .string ⟨#[]⟩, .int .i64 0, .int .i64 0, .string ⟨#[]⟩, .int .i64 0, .int .i64 0, .string ⟨#[]⟩, .int .i64 0, .int .i64 0, .string ⟨#[]⟩, .int .i64 0, .int .i64 0, .string ⟨#[]⟩, .int .i64 0, .int .i64 0, .string ⟨#[]⟩, .int .i64 0, .int .i64 0, .string ⟨#[]⟩, .slice none 0 0, .int .u32 0] 32)).setCells (w.heap.size + 1) 0 (cmc x) := ⟨_, rfl⟩
  rw [← hW1] at hs1
  rw [← hxc] at hW1 RG0 honc HLC hth ⊢
  have HS1 := Lib.hid hs1
  have HW1 := Lib.hid hW1
  have HON := Lib.hid honc
  have TH1 := hth
  obtain ⟨R, hR⟩ : ∃ R, R = decide (cok x) := ⟨_, rfl⟩
  rw [← hR]
  have HR := Lib.hid hR
  have e1 : (x.kd == 1) = false := by simp only [not_or] at hk; simp [hk]
  have e5 : (x.kd == 5) = false := by simp only [not_or] at hk; simp [hk]
  have e2 : (x.kd == 2) = false := by simp only [not_or] at hk; simp [hk]
  have e3 : (x.kd == 3) = false := by simp only [not_or] at hk; simp [hk]
  have e4 : (x.kd == 4) = false := by simp only [not_or] at hk; simp [hk]
  have ka_kd := HS1.out.a.cell HPX.out.1
  clear hs1 hth hxc hW1 honc hR B0
  have S2 := HS1.out.set 30 (.int .i64 0) (cm_sets HS1.out.y1 HS1.out.y2 0 0#32).2.1 HS1.out.y1 HS1.out.y2
  have S2 : CkSt w x _ (W1.setCell ⟨w.heap.size + 1, 30, none⟩ (.int .i64 0)) := S2
  obtain ⟨W2, hW2⟩ : ∃ W, W = W1.setCell ⟨w.heap.size + 1, 30, none⟩ (.int .i64 0) := ⟨_, rfl⟩
  rw [← hW2] at S2
  have C30 := Lib.hid (HS1.out.b.cell (cm_at HS1.out.y1 HS1.out.y2).2.1)
  have F30 := Lib.hid (HS1.out.b.frozen 30)
  have HW2 := Lib.hid hW2
  have S2 := Lib.hid S2
  clear hW2
  have S3 := S2.out.set 31 (.int .i64 0) (cm_sets S2.out.y1 S2.out.y2 0 0#32).2.2.1 S2.out.y1 S2.out.y2
  have S3 : CkSt w x _ (W2.setCell ⟨w.heap.size + 1, 31, none⟩ (.int .i64 0)) := S3
  obtain ⟨W3, hW3⟩ : ∃ W, W = W2.setCell ⟨w.heap.size + 1, 31, none⟩ (.int .i64 0) := ⟨_, rfl⟩
  rw [← hW3] at S3
  have C31 := Lib.hid (S2.out.b.cell (cm_at S2.out.y1 S2.out.y2).2.2.1)
  have F31 := Lib.hid (S2.out.b.frozen 31)
  have HW3 := Lib.hid hW3
  have S3 := Lib.hid S3
  clear hW3
  have kc_kd := S3.out.a.cell HPX.out.1
  have kc_30 := S3.out.a.cell HPX.out.2.1
  have kc_31 := S3.out.a.cell HPX.out.2.2.1
  have q_hg : decide (x.dv < 0) = false := decide_eq_false (by omega)
  have q_hl : decide (6 ≤ x.dv) = false := decide_eq_false (by omega)
  have q_r1 : decide (x.rq < 1) = false := decide_eq_false (by omega)
  have q_r2 : decide (1099511627776 < x.rq) = false := decide_eq_false (by omega)
  have hHT : R = false := by rw [HR.out]; exact decide_eq_false (fun k => hk k.1)
  have HT := Lib.hid hHT
  clear hHT
  have HBE := Lib.hid S3.out.be
  clear hk
  go_enter Try.func15, Try.ntmps15
  go_wp2_with (first
    | (refine wpList_load_mid rfl 32 (.tmp 1) rfl w.heap.size 0 rfl xc _ RG0 huc rfl (by rw [HLC.out]; exact info_cm) ?_
       simp only [Act.put, List.setIfInBounds_toArray, List.set_cons_zero, List.set_cons_succ])
    | (refine wpList_store_asC rfl 32 (.tmp 3) (.tmp 4) rfl (w.heap.size + 1) 0 xc.toArray rfl rfl (by simpa [HLC.out] using TH1) (by simpa [HLC.out] using info_cm) HON.out W1 HW1.out ?_)
    | (refine wpList_store_i rfl 3 (.tmp 34) (.const (.int .i64 0)) rfl (w.heap.size + 1) 30 .i64 0 rfl rfl _ info_i C30.out F30.out W2 HW2.out ?_)
    | (refine wpList_store_i rfl 3 (.tmp 35) (.const (.int .i64 0)) rfl (w.heap.size + 1) 31 .i64 0 rfl rfl _ info_i C31.out F31.out W3 HW3.out ?_)
    | fail)
  go_ret
  exact ⟨by first | rfl | (rw [HT.out]; rfl), HBE.out⟩
end Go.Proofs.Ytnhcjadkbogioaa

/- Commands: which may be, by the document: 4, a. -/
namespace Go.Proofs.Ytnhcjadkbogioaa
set_option linter.unusedVariables false
set_option linter.unusedSimpArgs false
open Go Go.RowKit OctM

set_option maxRecDepth 100000 in
set_option maxHeartbeats 6400000 in
theorem rccheck_4a (x : Cm) (w : World) (h : okCm w x) (hk : x.kd = 4) (hg : 0 ≤ x.dv) (hl : x.dv < 6) (r1 : 1 ≤ x.rq) (r2 : x.rq ≤ 1099511627776) :
    Calls Try.prog 15 #[.agg (cmc x).toArray] w fun e w' => e = .returned (.bool (decide (cok x))) ∧ Below w.heap.size w w' := by
  have hue := Try.underlying29
  have hup := Try.underlying27
  have huc := Try.underlying32
  obtain ⟨hs1, hth⟩ := CkSt.new w x h.e8 h.p8
  have B0 := Blk.new w (cmc x) 32
  have RG0 := B0.range 0 (cmc x) (by rw [List.drop_zero, List.take_length])
  have honc := all_oneCell_toArray (cmc_one x)
  have HLC := Lib.hid (cmc_len h.e8 h.p8)
  have HPX := Lib.hid (cm_at h.e8 h.p8)
  obtain ⟨xc, hxc⟩ : ∃ c, c = cmc x := ⟨_, rfl⟩
  obtain ⟨W1, hW1⟩ : ∃ W1, W1 = ((w.alloc (.cells (cmc x).toArray 32)).alloc (.cells #[.int .i64 0, .int .i64 0, .int .i64 0, .int .i64 0, .int .u32 0, .int .u32 0, .int .i64 0, .int .i64 0, .string ⟨#[]⟩, .int .i64 0, .int .i64 0, .string ⟨#[]⟩, .int .i64 0, .int .i64 0, .string ⟨#[]⟩, .int .i64 0, .int .i64 0, .string ⟨#[]⟩, .int .i64 0, .int .i64 0, .string ⟨#[]⟩, .int .i64 0, .int .i64 0, .string ⟨#[]⟩, .int .i64 0, .int .i64 0, .string ⟨#[]⟩, .int .i64 0, .int .i64 0, .string ⟨#[]⟩, .int .i64 0, .int .i64 0, .int .i64 0, .int .i64 0, .int .i64 0, .int .u32 0, .int .u32 0, .int .i64 0, .int .i64 0, .string ⟨#[]⟩, .int .i64 0, .int .i64 0, .string ⟨#[]⟩, .int .i64 0, .int .i64 0, .string ⟨#[]⟩, .int .i64 0, .int .i64 0, .string ⟨#[]⟩, .int .i64 0, .int .i64 0, .string ⟨#[]⟩, .int .i64 0, .int .i64 0, .string ⟨#[]⟩, .int .i64 0, .int .i64 0, .string ⟨#[]⟩, .int .i64 0, .int .i64 0, .string ⟨#[]⟩, .slice none 0 0, .int .u32 0] 32)).setCells (w.heap.size + 1) 0 (cmc x) := ⟨_, rfl⟩
  rw [← hW1] at hs1
  rw [← hxc] at hW1 RG0 honc HLC hth ⊢
  have HS1 := Lib.hid hs1
  have HW1 := Lib.hid hW1
  have HON := Lib.hid honc
  have TH1 := hth
  obtain ⟨R, hR⟩ : ∃ R, R = decide (cok x) := ⟨_, rfl⟩
  rw [← hR]
  have HR := Lib.hid hR
  have e1 : (x.kd == 1) = false := by rw [hk]; rfl
  have e5 : (x.kd == 5) = false := by rw [hk]; rfl
  have e2 : (x.kd == 2) = false := by rw [hk]; rfl
  have e3 : (x.kd == 3) = false := by rw [hk]; rfl
  have e4 : (x.kd == 4) = true := by rw [hk]; rfl
  have ka_kd := HS1.out.a.cell HPX.out.1
  clear hs1 hth hxc hW1 honc hR B0
  have S2 := HS1.out.set 30 (.int .i64 0) (cm_sets HS1.out.y1 HS1.out.y2 0 0#32).2.1 HS1.out.y1 HS1.out.y2
  have S2 : CkSt w x _ (W1.setCell ⟨w.heap.size + 1, 30, none⟩ (.int .i64 0)) := S2
  obtain ⟨W2, hW2⟩ : ∃ W, W = W1.setCell ⟨w.heap.size + 1, 30, none⟩ (.int .i64 0) := ⟨_, rfl⟩
  rw [← hW2] at S2
  have C30 := Lib.hid (HS1.out.b.cell (cm_at HS1.out.y1 HS1.out.y2).2.1)
  have F30 := Lib.hid (HS1.out.b.frozen 30)
  have HW2 := Lib.hid hW2
  have S2 := Lib.hid S2
  clear hW2
  have S3 := S2.out.set 31 (.int .i64 0) (cm_sets S2.out.y1 S2.out.y2 0 0#32).2.2.1 S2.out.y1 S2.out.y2
  have S3 : CkSt w x _ (W2.setCell ⟨w.heap.size + 1, 31, none⟩ (.int .i64 0)) := S3
  obtain ⟨W3, hW3⟩ : ∃ W, W = W2.setCell ⟨w.heap.size + 1, 31, none⟩ (.int .i64 0) := ⟨_, rfl⟩
  rw [← hW3] at S3
  have C31 := Lib.hid (S2.out.b.cell (cm_at S2.out.y1 S2.out.y2).2.2.1)
  have F31 := Lib.hid (S2.out.b.frozen 31)
  have HW3 := Lib.hid hW3
  have S3 := Lib.hid S3
  clear hW3
  have kc_kd := S3.out.a.cell HPX.out.1
  have kc_30 := S3.out.a.cell HPX.out.2.1
  have kc_31 := S3.out.a.cell HPX.out.2.2.1
  have S3 : Hid (CkSt w x (q4 x) W3) := Lib.hid S3.out
  have hzz := rczero_any (q4 x) W3 ⟨S3.out.y1, S3.out.y2, h.len, h.cap, h.max, ((h.see.below S3.out.be).more S3.out.be.size)⟩
  have RGZ := S3.out.b.range 0 (cmc (q4 x)) (by rw [List.drop_zero, List.take_length])
  have HLZ := Lib.hid (cmc_len S3.out.y1 S3.out.y2)
  obtain ⟨zr, hzr⟩ : ∃ b, b = decide (cz (q4 x)) := ⟨_, rfl⟩
  rw [← hzr] at hzz
  obtain ⟨yc, hyc⟩ : ∃ c, c = cmc (q4 x) := ⟨_, rfl⟩
  rw [← hyc] at hzz RGZ HLZ
  have HZZ := Lib.hid hzz
  clear hzz hyc
  have q_hg : decide (x.dv < 0) = false := decide_eq_false (by omega)
  have q_hl : decide (6 ≤ x.dv) = false := decide_eq_false (by omega)
  have q_r1 : decide (x.rq < 1) = false := decide_eq_false (by omega)
  have q_r2 : decide (1099511627776 < x.rq) = false := decide_eq_false (by omega)
  have hHT : R = zr := by rw [HR.out, hzr]; exact decide_eq_decide.2 ((cok_4 hk).trans ⟨fun k => k.2.2, fun k => ⟨⟨hg, hl⟩, ⟨r1, r2⟩, k⟩⟩)
  have HT := Lib.hid hHT
  clear hHT hzr hk
  go_enter Try.func15, Try.ntmps15
  go_wp2_with (first
    | (refine wpList_load_mid rfl 32 (.tmp 1) rfl w.heap.size 0 rfl xc _ RG0 huc rfl (by rw [HLC.out]; exact info_cm) ?_
       simp only [Act.put, List.setIfInBounds_toArray, List.set_cons_zero, List.set_cons_succ])
    | (refine wpList_store_asC rfl 32 (.tmp 3) (.tmp 4) rfl (w.heap.size + 1) 0 xc.toArray rfl rfl (by simpa [HLC.out] using TH1) (by simpa [HLC.out] using info_cm) HON.out W1 HW1.out ?_)
    | (refine wpList_store_i rfl 3 (.tmp 34) (.const (.int .i64 0)) rfl (w.heap.size + 1) 30 .i64 0 rfl rfl _ info_i C30.out F30.out W2 HW2.out ?_)
    | (refine wpList_store_i rfl 3 (.tmp 35) (.const (.int .i64 0)) rfl (w.heap.size + 1) 31 .i64 0 rfl rfl _ info_i C31.out F31.out W3 HW3.out ?_)
    | (refine wpList_load_mid rfl 32 (.tmp 3) rfl (w.heap.size + 1) 0 rfl yc _ RGZ huc rfl (by rw [HLZ.out]; exact info_cm) ?_; simp only [Act.put, List.setIfInBounds_toArray, List.set_cons_zero, List.set_cons_succ])
    | fail)
  refine HZZ.out.mono ?_
  rintro e wz ⟨rfl, hbz⟩
  have HBE := Lib.hid (S3.out.later hbz).be
  clear hbz
  go_wp2_with (first
    | (refine wpList_load_mid rfl 32 (.tmp 1) rfl w.heap.size 0 rfl xc _ RG0 huc rfl (by rw [HLC.out]; exact info_cm) ?_
       simp only [Act.put, List.setIfInBounds_toArray, List.set_cons_zero, List.set_cons_succ])
    | (refine wpList_store_asC rfl 32 (.tmp 3) (.tmp 4) rfl (w.heap.size + 1) 0 xc.toArray rfl rfl (by simpa [HLC.out] using TH1) (by simpa [HLC.out] using info_cm) HON.out W1 HW1.out ?_)
    | fail)
  go_ret
  exact ⟨by first | rfl | (rw [HT.out]; rfl), HBE.out⟩
end Go.Proofs.Ytnhcjadkbogioaa

/- Commands: which may be, by the document: 3, a. -/
namespace Go.Proofs.Ytnhcjadkbogioaa
set_option linter.unusedVariables false
set_option linter.unusedSimpArgs false
open Go Go.RowKit OctM

set_option maxRecDepth 100000 in
set_option maxHeartbeats 6400000 in
theorem rccheck_3a (x : Cm) (w : World) (h : okCm w x) (hk : x.kd = 3) (hg : 0 ≤ x.dv) (hl : x.dv < 6) (r1 : 1 ≤ x.rq) (r2 : x.rq ≤ 1099511627776) (z : ¬ (cz (y3 x))) :
    Calls Try.prog 15 #[.agg (cmc x).toArray] w fun e w' => e = .returned (.bool (decide (cok x))) ∧ Below w.heap.size w w' := by
  have hue := Try.underlying29
  have hup := Try.underlying27
  have huc := Try.underlying32
  obtain ⟨hs1, hth⟩ := CkSt.new w x h.e8 h.p8
  have B0 := Blk.new w (cmc x) 32
  have RG0 := B0.range 0 (cmc x) (by rw [List.drop_zero, List.take_length])
  have honc := all_oneCell_toArray (cmc_one x)
  have HLC := Lib.hid (cmc_len h.e8 h.p8)
  have HPX := Lib.hid (cm_at h.e8 h.p8)
  obtain ⟨xc, hxc⟩ : ∃ c, c = cmc x := ⟨_, rfl⟩
  obtain ⟨W1, hW1⟩ : ∃ W1, W1 = ((w.alloc (.cells (cmc x).toArray 32)).alloc (.cells #[.int .i64 0, .int .i64 0, .int .i64 0, .int .i64 0, .int .u32 0, .int .u32 0, .int .i64 0, .int .i64 0, .string ⟨#[]⟩, .int .i64 0, .int .i64 0, .string ⟨#[]⟩, .int .i64 0, .int .i64 0, .string ⟨#[]⟩, .int .i64 0, .int .i64 0, .string ⟨#[]⟩, .int .i64 0, .int .i64 0, .string ⟨#[]⟩, .int .i64 0, .int .i64 0, .string ⟨#[]⟩, .int .i64 0, .int .i64 0, .string ⟨#[]⟩, .int .i64 0, .int .i64 0, .string ⟨#[]⟩, .int .i64 0, .int .i64 0, .int .i64 0, .int .i64 0, .int .i64 0, .int .u32 0, .int .u32 0, .int .i64 0, .int .i64 0, .string ⟨#[]⟩, .int .i64 0, .int .i64 0, .string ⟨#[]⟩, .int .i64 0, .int .i64 0, .string ⟨#[]⟩, .int .i64 0, .int .i64 0, .string ⟨#[]⟩, .int .i64 0, .int .i64 0, .string ⟨#[]⟩, .int .i64 0, .int .i64 0, .string ⟨#[]⟩, .int .i64 0, .int .i64 0, .string ⟨#[]⟩, .int .i64 0, .int .i64 0, .string ⟨#[]⟩, .slice none 0 0, .int .u32 0] 32)).setCells (w.heap.size + 1) 0 (cmc x) := ⟨_, rfl⟩
  rw [← hW1] at hs1
  rw [← hxc] at hW1 RG0 honc HLC hth ⊢
  have HS1 := Lib.hid hs1
  have HW1 := Lib.hid hW1
  have HON := Lib.hid honc
  have TH1 := hth
  obtain ⟨R, hR⟩ : ∃ R, R = decide (cok x) := ⟨_, rfl⟩
  rw [← hR]
  have HR := Lib.hid hR
  have e1 : (x.kd == 1) = false := by rw [hk]; rfl
  have e5 : (x.kd == 5) = false := by rw [hk]; rfl
  have e2 : (x.kd == 2) = false := by rw [hk]; rfl
  have e3 : (x.kd == 3) = true := by rw [hk]; rfl
  have e4 : (x.kd == 4) = false := by rw [hk]; rfl
  have ka_kd := HS1.out.a.cell HPX.out.1
  clear hs1 hth hxc hW1 honc hR B0
  have S2 := HS1.out.set 30 (.int .i64 0) (cm_sets HS1.out.y1 HS1.out.y2 0 0#32).2.1 HS1.out.y1 HS1.out.y2
  have S2 : CkSt w x _ (W1.setCell ⟨w.heap.size + 1, 30, none⟩ (.int .i64 0)) := S2
  obtain ⟨W2, hW2⟩ : ∃ W, W = W1.setCell ⟨w.heap.size + 1, 30, none⟩ (.int .i64 0) := ⟨_, rfl⟩
  rw [← hW2] at S2
  have C30 := Lib.hid (HS1.out.b.cell (cm_at HS1.out.y1 HS1.out.y2).2.1)
  have F30 := Lib.hid (HS1.out.b.frozen 30)
  have HW2 := Lib.hid hW2
  have S2 := Lib.hid S2
  clear hW2
  have S3 := S2.out.set 31 (.int .i64 0) (cm_sets S2.out.y1 S2.out.y2 0 0#32).2.2.1 S2.out.y1 S2.out.y2
  have S3 : CkSt w x _ (W2.setCell ⟨w.heap.size + 1, 31, none⟩ (.int .i64 0)) := S3
  obtain ⟨W3, hW3⟩ : ∃ W, W = W2.setCell ⟨w.heap.size + 1, 31, none⟩ (.int .i64 0) := ⟨_, rfl⟩
  rw [← hW3] at S3
  have C31 := Lib.hid (S2.out.b.cell (cm_at S2.out.y1 S2.out.y2).2.2.1)
  have F31 := Lib.hid (S2.out.b.frozen 31)
  have HW3 := Lib.hid hW3
  have S3 := Lib.hid S3
  clear hW3
  have kc_kd := S3.out.a.cell HPX.out.1
  have kc_30 := S3.out.a.cell HPX.out.2.1
  have kc_31 := S3.out.a.cell HPX.out.2.2.1
  have S4 := S3.out.set 61 (.slice none 0 0) (cm_sets S3.out.y1 S3.out.y2 0 0#32).2.2.2.2.2.2.1 S3.out.y1 S3.out.y2
  have S4 : CkSt w x _ (W3.setCell ⟨w.heap.size + 1, 61, none⟩ (.slice none 0 0)) := S4
  obtain ⟨W4, hW4⟩ : ∃ W, W = W3.setCell ⟨w.heap.size + 1, 61, none⟩ (.slice none 0 0) := ⟨_, rfl⟩
  rw [← hW4] at S4
  have C61 := Lib.hid (S3.out.b.cell (cm_at S3.out.y1 S3.out.y2).2.2.2.2.2.2.1)
  have F61 := Lib.hid (S3.out.b.frozen 61)
  have HW4 := Lib.hid hW4
  have S4 := Lib.hid S4
  clear hW4
  have S5 := S4.out.set 62 (.int .u32 ((0#32 : BitVec 32).toNat : Int)) (cm_sets S4.out.y1 S4.out.y2 0 0#32).2.2.2.2.2.2.2 S4.out.y1 S4.out.y2
  have S5 : CkSt w x (q3 x) (W4.setCell ⟨w.heap.size + 1, 62, none⟩ (.int .u32 0)) := S5
  obtain ⟨W5, hW5⟩ : ∃ W, W = W4.setCell ⟨w.heap.size + 1, 62, none⟩ (.int .u32 0) := ⟨_, rfl⟩
  rw [← hW5] at S5
  have C62 := Lib.hid (S4.out.b.cell (cm_at S4.out.y1 S4.out.y2).2.2.2.2.2.2.2)
  have F62 := Lib.hid (S4.out.b.frozen 62)
  have HW5 := Lib.hid hW5
  have S5 := Lib.hid S5
  clear hW5
  have hzz := rczero_any (q3 x) W5 ⟨S5.out.y1, S5.out.y2, rfl, Nat.le_refl 0, Nat.zero_le _, fun hp => absurd hp (Nat.lt_irrefl 0)⟩
  have RGZ := S5.out.b.range 0 (cmc (q3 x)) (by rw [List.drop_zero, List.take_length])
  have HLZ := Lib.hid (cmc_len S5.out.y1 S5.out.y2)
  rw [decide_eq_false (show ¬ cz (q3 x) from z)] at hzz
  obtain ⟨yc, hyc⟩ : ∃ c, c = cmc (q3 x) := ⟨_, rfl⟩
  rw [← hyc] at hzz RGZ HLZ
  have HZZ := Lib.hid hzz
  clear hzz hyc
  have q_hg : decide (x.dv < 0) = false := decide_eq_false (by omega)
  have q_hl : decide (6 ≤ x.dv) = false := decide_eq_false (by omega)
  have q_r1 : decide (x.rq < 1) = false := decide_eq_false (by omega)
  have q_r2 : decide (1099511627776 < x.rq) = false := decide_eq_false (by omega)
  have hHT : R = false := by rw [HR.out]; exact decide_eq_false (fun k => z ((cok_3 hk).1 k).2.2.2.2)
  have HT := Lib.hid hHT
  clear hHT
  clear hk
  go_enter Try.func15, Try.ntmps15
  go_wp2_with (first
    | (refine wpList_load_mid rfl 32 (.tmp 1) rfl w.heap.size 0 rfl xc _ RG0 huc rfl (by rw [HLC.out]; exact info_cm) ?_
       simp only [Act.put, List.setIfInBounds_toArray, List.set_cons_zero, List.set_cons_succ])
    | (refine wpList_store_asC rfl 32 (.tmp 3) (.tmp 4) rfl (w.heap.size + 1) 0 xc.toArray rfl rfl (by simpa [HLC.out] using TH1) (by simpa [HLC.out] using info_cm) HON.out W1 HW1.out ?_)
    | (refine wpList_store_i rfl 3 (.tmp 34) (.const (.int .i64 0)) rfl (w.heap.size + 1) 30 .i64 0 rfl rfl _ info_i C30.out F30.out W2 HW2.out ?_)
    | (refine wpList_store_i rfl 3 (.tmp 35) (.const (.int .i64 0)) rfl (w.heap.size + 1) 31 .i64 0 rfl rfl _ info_i C31.out F31.out W3 HW3.out ?_)
    | (refine wpList_store_s rfl 30 (.tmp 92) (.const (.slice none 0 0)) rfl (w.heap.size + 1) 61 none 0 0 rfl rfl _ info_f C61.out F61.out W4 HW4.out ?_)
    | (refine wpList_store_i rfl 22 (.tmp 93) (.const (.int .u32 0)) rfl (w.heap.size + 1) 62 .u32 0 rfl rfl _ info_m C62.out F62.out W5 HW5.out ?_)
    | (refine wpList_load_mid rfl 32 (.tmp 3) rfl (w.heap.size + 1) 0 rfl yc _ RGZ huc rfl (by rw [HLZ.out]; exact info_cm) ?_; simp only [Act.put, List.setIfInBounds_toArray, List.set_cons_zero, List.set_cons_succ])
    | fail)
  refine HZZ.out.mono ?_
  rintro e wz ⟨rfl, hbz⟩
  have HSZ := Lib.hid (S5.out.later hbz)
  have kz_61 := HSZ.out.a.cell HPX.out.2.2.2.2.2.2.1
  have HBE := Lib.hid HSZ.out.be
  clear hbz
  go_wp2_with (first
    | (refine wpList_load_mid rfl 32 (.tmp 1) rfl w.heap.size 0 rfl xc _ RG0 huc rfl (by rw [HLC.out]; exact info_cm) ?_
       simp only [Act.put, List.setIfInBounds_toArray, List.set_cons_zero, List.set_cons_succ])
    | (refine wpList_store_asC rfl 32 (.tmp 3) (.tmp 4) rfl (w.heap.size + 1) 0 xc.toArray rfl rfl (by simpa [HLC.out] using TH1) (by simpa [HLC.out] using info_cm) HON.out W1 HW1.out ?_)
    | fail)
  go_ret
  exact ⟨by first | rfl | (rw [HT.out]; rfl), HBE.out⟩
end Go.Proofs.Ytnhcjadkbogioaa

/- Commands: which may be, by the document: 3, b. -/
namespace Go.Proofs.Ytnhcjadkbogioaa
set_option linter.unusedVariables false
set_option linter.unusedSimpArgs false
open Go Go.RowKit OctM

set_option maxRecDepth 100000 in
set_option maxHeartbeats 6400000 in
theorem rccheck_3b (x : Cm) (w : World) (h : okCm w x) (hk : x.kd = 3) (hg : 0 ≤ x.dv) (hl : x.dv < 6) (r1 : 1 ≤ x.rq) (r2 : x.rq ≤ 1099511627776) (z : cz (y3 x)) (hp : ¬ (lchk x.f = 0)) :
    Calls Try.prog 15 #[.agg (cmc x).toArray] w fun e w' => e = .returned (.bool (decide (cok x))) ∧ Below w.heap.size w w' := by
  have hue := Try.underlying29
  have hup := Try.underlying27
  have huc := Try.underlying32
  obtain ⟨hs1, hth⟩ := CkSt.new w x h.e8 h.p8
  have B0 := Blk.new w (cmc x) 32
  have RG0 := B0.range 0 (cmc x) (by rw [List.drop_zero, List.take_length])
  have honc := all_oneCell_toArray (cmc_one x)
  have HLC := Lib.hid (cmc_len h.e8 h.p8)
  have HPX := Lib.hid (cm_at h.e8 h.p8)
  obtain ⟨xc, hxc⟩ : ∃ c, c = cmc x := ⟨_, rfl⟩
  obtain ⟨W1, hW1⟩ : ∃ W1, W1 = ((w.alloc (.cells (cmc x).toArray 32)).alloc (.cells #[.int .i64 0, .int .i64 0, .int .i64 0, .int .i64 0, .int .u32 0, .int .u32 0, .int .i64 0, .int .i64 0, .string ⟨#[]⟩, .int .i64 0, .int .i64 0, .string ⟨#[]⟩, .int .i64 0, .int .i64 0, .string ⟨#[]⟩, .int .i64 0, .int .i64 0, .string ⟨#[]⟩, .int .i64 0, .int .i64 0, .string ⟨#[]⟩, .int .i64 0, .int .i64 0, .string ⟨#[]⟩, .int .i64 0, .int .i64 0, .string ⟨#[]⟩, .int .i64 0, .int .i64 0, .string ⟨#[]⟩, .int .i64 0, .int .i64 0, .int .i64 0, .int .i64 0, .int .i64 0, .int .u32 0, .int .u32 0, .int .i64 0, .int .i64 0, .string ⟨#[]⟩, .int .i64 0, .int .i64 0, .string ⟨#[]⟩, .int .i64 0, .int .i64 0, .string ⟨#[]⟩, .int .i64 0, .int .i64 0, .string ⟨#[]⟩, .int .i64 0, .int .i64 0, .string ⟨#[]⟩, .int .i64 0, .int .i64 0, .string ⟨#[]⟩, .int .i64 0, .int .i64 0, .string ⟨#[]⟩, .int .i64 0, .int .i64 0, .string ⟨#[]⟩, .slice none 0 0, .int .u32 0] 32)).setCells (w.heap.size + 1) 0 (cmc x) := ⟨_, rfl⟩
  rw [← hW1] at hs1
  rw [← hxc] at hW1 RG0 honc HLC hth ⊢
  have HS1 := Lib.hid hs1
  have HW1 := Lib.hid hW1
  have HON := Lib.hid honc
  have TH1 := hth
  obtain ⟨R, hR⟩ : ∃ R, R = decide (cok x) := ⟨_, rfl⟩
  rw [← hR]
  have HR := Lib.hid hR
  have e1 : (x.kd == 1) = false := by rw [hk]; rfl
  have e5 : (x.kd == 5) = false := by rw [hk]; rfl
  have e2 : (x.kd == 2) = false := by rw [hk]; rfl
  have e3 : (x.kd == 3) = true := by rw [hk]; rfl
  have e4 : (x.kd == 4) = false := by rw [hk]; rfl
  have ka_kd := HS1.out.a.cell HPX.out.1
  clear hs1 hth hxc hW1 honc hR B0
  have S2 := HS1.out.set 30 (.int .i64 0) (cm_sets HS1.out.y1 HS1.out.y2 0 0#32).2.1 HS1.out.y1 HS1.out.y2
  have S2 : CkSt w x _ (W1.setCell ⟨w.heap.size + 1, 30, none⟩ (.int .i64 0)) := S2
  obtain ⟨W2, hW2⟩ : ∃ W, W = W1.setCell ⟨w.heap.size + 1, 30, none⟩ (.int .i64 0) := ⟨_, rfl⟩
  rw [← hW2] at S2
  have C30 := Lib.hid (HS1.out.b.cell (cm_at HS1.out.y1 HS1.out.y2).2.1)
  have F30 := Lib.hid (HS1.out.b.frozen 30)
  have HW2 := Lib.hid hW2
  have S2 := Lib.hid S2
  clear hW2
  have S3 := S2.out.set 31 (.int .i64 0) (cm_sets S2.out.y1 S2.out.y2 0 0#32).2.2.1 S2.out.y1 S2.out.y2
  have S3 : CkSt w x _ (W2.setCell ⟨w.heap.size + 1, 31, none⟩ (.int .i64 0)) := S3
  obtain ⟨W3, hW3⟩ : ∃ W, W = W2.setCell ⟨w.heap.size + 1, 31, none⟩ (.int .i64 0) := ⟨_, rfl⟩
  rw [← hW3] at S3
  have C31 := Lib.hid (S2.out.b.cell (cm_at S2.out.y1 S2.out.y2).2.2.1)
  have F31 := Lib.hid (S2.out.b.frozen 31)
  have HW3 := Lib.hid hW3
  have S3 := Lib.hid S3
  clear hW3
  have kc_kd := S3.out.a.cell HPX.out.1
  have kc_30 := S3.out.a.cell HPX.out.2.1
  have kc_31 := S3.out.a.cell HPX.out.2.2.1
  have S4 := S3.out.set 61 (.slice none 0 0) (cm_sets S3.out.y1 S3.out.y2 0 0#32).2.2.2.2.2.2.1 S3.out.y1 S3.out.y2
  have S4 : CkSt w x _ (W3.setCell ⟨w.heap.size + 1, 61, none⟩ (.slice none 0 0)) := S4
  obtain ⟨W4, hW4⟩ : ∃ W, W = W3.setCell ⟨w.heap.size + 1, 61, none⟩ (.slice none 0 0) := ⟨_, rfl⟩
  rw [← hW4] at S4
  have C61 := Lib.hid (S3.out.b.cell (cm_at S3.out.y1 S3.out.y2).2.2.2.2.2.2.1)
  have F61 := Lib.hid (S3.out.b.frozen 61)
  have HW4 := Lib.hid hW4
  have S4 := Lib.hid S4
  clear hW4
  have S5 := S4.out.set 62 (.int .u32 ((0#32 : BitVec 32).toNat : Int)) (cm_sets S4.out.y1 S4.out.y2 0 0#32).2.2.2.2.2.2.2 S4.out.y1 S4.out.y2
  have S5 : CkSt w x (q3 x) (W4.setCell ⟨w.heap.size + 1, 62, none⟩ (.int .u32 0)) := S5
  obtain ⟨W5, hW5⟩ : ∃ W, W = W4.setCell ⟨w.heap.size + 1, 62, none⟩ (.int .u32 0) := ⟨_, rfl⟩
  rw [← hW5] at S5
  have C62 := Lib.hid (S4.out.b.cell (cm_at S4.out.y1 S4.out.y2).2.2.2.2.2.2.2)
  have F62 := Lib.hid (S4.out.b.frozen 62)
  have HW5 := Lib.hid hW5
  have S5 := Lib.hid S5
  clear hW5
  have hzz := rczero_any (q3 x) W5 ⟨S5.out.y1, S5.out.y2, rfl, Nat.le_refl 0, Nat.zero_le _, fun hp => absurd hp (Nat.lt_irrefl 0)⟩
  have RGZ := S5.out.b.range 0 (cmc (q3 x)) (by rw [List.drop_zero, List.take_length])
  have HLZ := Lib.hid (cmc_len S5.out.y1 S5.out.y2)
  rw [decide_eq_true (show cz (q3 x) from z)] at hzz
  obtain ⟨yc, hyc⟩ : ∃ c, c = cmc (q3 x) := ⟨_, rfl⟩
  rw [← hyc] at hzz RGZ HLZ
  have HZZ := Lib.hid hzz
  clear hzz hyc
  have q_hg : decide (x.dv < 0) = false := decide_eq_false (by omega)
  have q_hl : decide (6 ≤ x.dv) = false := decide_eq_false (by omega)
  have q_r1 : decide (x.rq < 1) = false := decide_eq_false (by omega)
  have q_r2 : decide (1099511627776 < x.rq) = false := decide_eq_false (by omega)
  have HLK : Hid (∀ wx : World, Below w.heap.size w wx → Calls Try.prog 39 #[.slice x.A x.n x.c] wx fun e w' => e = .returned (.int .i64 (lchk x.f)) ∧ Below wx.heap.size wx w') := Lib.hid (fun wx hb => rlcheck_any x.A x.n x.c x.f wx h.len ((h.see.below hb).more hb.size) h.cap)
  obtain ⟨ip, hip⟩ : ∃ c, c = lchk x.f := ⟨_, rfl⟩
  rw [← hip] at HLK
  have HIP := Lib.hid hip
  clear hip
  have b0 : (ip == 0) = false := by rw [HIP.out]; simp [hp]
  have hHT : R = false := by rw [HR.out]; exact decide_eq_false (fun k => hp ((cok_3 hk).1 k).2.2.1)
  have HT := Lib.hid hHT
  clear hHT
  clear hk
  go_enter Try.func15, Try.ntmps15
  go_wp2_with (first
    | (refine wpList_load_mid rfl 32 (.tmp 1) rfl w.heap.size 0 rfl xc _ RG0 huc rfl (by rw [HLC.out]; exact info_cm) ?_
       simp only [Act.put, List.setIfInBounds_toArray, List.set_cons_zero, List.set_cons_succ])
    | (refine wpList_store_asC rfl 32 (.tmp 3) (.tmp 4) rfl (w.heap.size + 1) 0 xc.toArray rfl rfl (by simpa [HLC.out] using TH1) (by simpa [HLC.out] using info_cm) HON.out W1 HW1.out ?_)
    | (refine wpList_store_i rfl 3 (.tmp 34) (.const (.int .i64 0)) rfl (w.heap.size + 1) 30 .i64 0 rfl rfl _ info_i C30.out F30.out W2 HW2.out ?_)
    | (refine wpList_store_i rfl 3 (.tmp 35) (.const (.int .i64 0)) rfl (w.heap.size + 1) 31 .i64 0 rfl rfl _ info_i C31.out F31.out W3 HW3.out ?_)
    | (refine wpList_store_s rfl 30 (.tmp 92) (.const (.slice none 0 0)) rfl (w.heap.size + 1) 61 none 0 0 rfl rfl _ info_f C61.out F61.out W4 HW4.out ?_)
    | (refine wpList_store_i rfl 22 (.tmp 93) (.const (.int .u32 0)) rfl (w.heap.size + 1) 62 .u32 0 rfl rfl _ info_m C62.out F62.out W5 HW5.out ?_)
    | (refine wpList_load_mid rfl 32 (.tmp 3) rfl (w.heap.size + 1) 0 rfl yc _ RGZ huc rfl (by rw [HLZ.out]; exact info_cm) ?_; simp only [Act.put, List.setIfInBounds_toArray, List.set_cons_zero, List.set_cons_succ])
    | fail)
  refine HZZ.out.mono ?_
  rintro e wz ⟨rfl, hbz⟩
  have HSZ := Lib.hid (S5.out.later hbz)
  have kz_61 := HSZ.out.a.cell HPX.out.2.2.2.2.2.2.1
  have HBE := Lib.hid HSZ.out.be
  clear hbz
  go_wp2_with (first
    | (refine wpList_load_mid rfl 32 (.tmp 1) rfl w.heap.size 0 rfl xc _ RG0 huc rfl (by rw [HLC.out]; exact info_cm) ?_
       simp only [Act.put, List.setIfInBounds_toArray, List.set_cons_zero, List.set_cons_succ])
    | (refine wpList_store_asC rfl 32 (.tmp 3) (.tmp 4) rfl (w.heap.size + 1) 0 xc.toArray rfl rfl (by simpa [HLC.out] using TH1) (by simpa [HLC.out] using info_cm) HON.out W1 HW1.out ?_)
    | fail)
  refine (HLK.out _ HSZ.out.be).mono ?_
  rintro e wy ⟨rfl, hby⟩
  have HSY := Lib.hid (HSZ.out.later hby)
  have ky_62 := HSY.out.a.cell HPX.out.2.2.2.2.2.2.2
  have HBE := Lib.hid HSY.out.be
  clear hby kz_61
  go_wp2_with (first
    | (refine wpList_load_mid rfl 32 (.tmp 1) rfl w.heap.size 0 rfl xc _ RG0 huc rfl (by rw [HLC.out]; exact info_cm) ?_
       simp only [Act.put, List.setIfInBounds_toArray, List.set_cons_zero, List.set_cons_succ])
    | (refine wpList_store_asC rfl 32 (.tmp 3) (.tmp 4) rfl (w.heap.size + 1) 0 xc.toArray rfl rfl (by simpa [HLC.out] using TH1) (by simpa [HLC.out] using info_cm) HON.out W1 HW1.out ?_)
    | fail)
  go_ret
  exact ⟨by first | rfl | (rw [HT.out]; rfl), HBE.out⟩
end Go.Proofs.Ytnhcjadkbogioaa

/- Commands: which may be, by the document: 3, c. -/
namespace Go.Proofs.Ytnhcjadkbogioaa
set_option linter.unusedVariables false
set_option linter.unusedSimpArgs false
open Go Go.RowKit OctM

set_option maxRecDepth 100000 in
set_option maxHeartbeats 6400000 in
theorem rccheck_3c (x : Cm) (w : World) (h : okCm w x) (hk : x.kd = 3) (hg : 0 ≤ x.dv) (hl : x.dv < 6) (r1 : 1 ≤ x.rq) (r2 : x.rq ≤ 1099511627776) (z : cz (y3 x)) (hp : lchk x.f = 0) (hm : ¬ (x.ms.toNat ≤ 511)) :
    Calls Try.prog 15 #[.agg (cmc x).toArray] w fun e w' => e = .returned (.bool (decide (cok x))) ∧ Below w.heap.size w w' := by
  have hue := Try.underlying29
  have hup := Try.underlying27
  have huc := Try.underlying32
  obtain ⟨hs1, hth⟩ := CkSt.new w x h.e8 h.p8
  have B0 := Blk.new w (cmc x) 32
  have RG0 := B0.range 0 (cmc x) (by rw [List.drop_zero, List.take_length])
  have honc := all_oneCell_toArray (cmc_one x)
  have HLC := Lib.hid (cmc_len h.e8 h.p8)
  have HPX := Lib.hid (cm_at h.e8 h.p8)
  obtain ⟨xc, hxc⟩ : ∃ c, c = cmc x := ⟨_, rfl⟩
  obtain ⟨W1, hW1⟩ : ∃ W1, W1 = ((w.alloc (.cells (cmc x).toArray 32)).alloc (.cells #[.int .i64 0, .int .i64 0, .int .i64 0, .int .i64 0, .int .u32 0, .int .u32 0, .int .i64 0, .int .i64 0, .string ⟨#[]⟩, .int .i64 0, .int .i64 0, .string ⟨#[]⟩, .int .i64 0, .int .i64 0, .string ⟨#[]⟩, .int .i64 0, .int .i64 0, .string ⟨#[]⟩, .int .i64 0, .int .i64 0, .string ⟨#[]⟩, .int .i64 0, .int .i64 0, .string ⟨#[]⟩, .int .i64 0, .int .i64 0, .string ⟨#[]⟩, .int .i64 0, .int .i64 0, .string ⟨#[]⟩, .int .i64 0, .int .i64 0, .int .i64 0, .int .i64 0, .int .i64 0, .int .u32 0, .int .u32 0, .int .i64 0, .int .i64 0, .string ⟨#[]⟩, .int .i64 0, .int .i64 0, .string ⟨#[]⟩, .int .i64 0, .int .i64 0, .string ⟨#[]⟩, .int .i64 0, .int .i64 0, .string ⟨#[]⟩, .int .i64 0, .int .i64 0, .string ⟨#[]⟩, .int .i64 0, .int .i64 0, .string ⟨#[]⟩, .int .i64 0, .int .i64 0, .string ⟨#[]⟩, .int .i64 0, .int .i64 0, .string ⟨#[]⟩, .slice none 0 0, .int .u32 0] 32)).setCells (w.heap.size + 1) 0 (cmc x) := ⟨_, rfl⟩
  rw [← hW1] at hs1
  rw [← hxc] at hW1 RG0 honc HLC hth ⊢
  have HS1 := Lib.hid hs1
  have HW1 := Lib.hid hW1
  have HON := Lib.hid honc
  have TH1 := hth
  obtain ⟨R, hR⟩ : ∃ R, R = decide (cok x) := ⟨_, rfl⟩
  rw [← hR]
  have HR := Lib.hid hR
  have e1 : (x.kd == 1) = false := by rw [hk]; rfl
  have e5 : (x.kd == 5) = false := by rw [hk]; rfl
  have e2 : (x.kd == 2) = false := by rw [hk]; rfl
  have e3 : (x.kd == 3) = true := by rw [hk]; rfl
  have e4 : (x.kd == 4) = false := by rw [hk]; rfl
  have ka_kd := HS1.out.a.cell HPX.out.1
  clear hs1 hth hxc hW1 honc hR B0
  have S2 := HS1.out.set 30 (.int .i64 0) (cm_sets HS1.out.y1 HS1.out.y2 0 0#32).2.1 HS1.out.y1 HS1.out.y2
  have S2 : CkSt w x _ (W1.setCell ⟨w.heap.size + 1, 30, none⟩ (.int .i64 0)) := S2
  obtain ⟨W2, hW2⟩ : ∃ W, W = W1.setCell ⟨w.heap.size + 1, 30, none⟩ (.int .i64 0) := ⟨_, rfl⟩
  rw [← hW2] at S2
  have C30 := Lib.hid (HS1.out.b.cell (cm_at HS1.out.y1 HS1.out.y2).2.1)
  have F30 := Lib.hid (HS1.out.b.frozen 30)
  have HW2 := Lib.hid hW2
  have S2 := Lib.hid S2
  clear hW2
  have S3 := S2.out.set 31 (.int .i64 0) (cm_sets S2.out.y1 S2.out.y2 0 0#32).2.2.1 S2.out.y1 S2.out.y2
  have S3 : CkSt w x _ (W2.setCell ⟨w.heap.size + 1, 31, none⟩ (.int .i64 0)) := S3
  obtain ⟨W3, hW3⟩ : ∃ W, W = W2.setCell ⟨w.heap.size + 1, 31, none⟩ (.int .i64 0) := ⟨_, rfl⟩
  rw [← hW3] at S3
  have C31 := Lib.hid (S2.out.b.cell (cm_at S2.out.y1 S2.out.y2).2.2.1)
  have F31 := Lib.hid (S2.out.b.frozen 31)
  have HW3 := Lib.hid hW3
  have S3 := Lib.hid S3
  clear hW3
  have kc_kd := S3.out.a.cell HPX.out.1
  have kc_30 := S3.out.a.cell HPX.out.2.1
  have kc_31 := S3.out.a.cell HPX.out.2.2.1
  have S4 := S3.out.set 61 (.slice none 0 0) (cm_sets S3.out.y1 S3.out.y2 0 0#32).2.2.2.2.2.2.1 S3.out.y1 S3.out.y2
  have S4 : CkSt w x _ (W3.setCell ⟨w.heap.size + 1, 61, none⟩ (.slice none 0 0)) := S4
  obtain ⟨W4, hW4⟩ : ∃ W, W = W3.setCell ⟨w.heap.size + 1, 61, none⟩ (.slice none 0 0) := ⟨_, rfl⟩
  rw [← hW4] at S4
  have C61 := Lib.hid (S3.out.b.cell (cm_at S3.out.y1 S3.out.y2).2.2.2.2.2.2.1)
  have F61 := Lib.hid (S3.out.b.frozen 61)
  have HW4 := Lib.hid hW4
  have S4 := Lib.hid S4
  clear hW4
  have S5 := S4.out.set 62 (.int .u32 ((0#32 : BitVec 32).toNat : Int)) (cm_sets S4.out.y1 S4.out.y2 0 0#32).2.2.2.2.2.2.2 S4.out.y1 S4.out.y2
  have S5 : CkSt w x (q3 x) (W4.setCell ⟨w.heap.size + 1, 62, none⟩ (.int .u32 0)) := S5
  obtain ⟨W5, hW5⟩ : ∃ W, W = W4.setCell ⟨w.heap.size + 1, 62, none⟩ (.int .u32 0) := ⟨_, rfl⟩
  rw [← hW5] at S5
  have C62 := Lib.hid (S4.out.b.cell (cm_at S4.out.y1 S4.out.y2).2.2.2.2.2.2.2)
  have F62 := Lib.hid (S4.out.b.frozen 62)
  have HW5 := Lib.hid hW5
  have S5 := Lib.hid S5
  clear hW5
  have hzz := rczero_any (q3 x) W5 ⟨S5.out.y1, S5.out.y2, rfl, Nat.le_refl 0, Nat.zero_le _, fun hp => absurd hp (Nat.lt_irrefl 0)⟩
  have RGZ := S5.out.b.range 0 (cmc (q3 x)) (by rw [List.drop_zero, List.take_length])
  have HLZ := Lib.hid (cmc_len S5.out.y1 S5.out.y2)
  rw [decide_eq_true (show cz (q3 x) from z)] at hzz
  obtain ⟨yc, hyc⟩ : ∃ c, c = cmc (q3 x) := ⟨_, rfl⟩
  rw [← hyc] at hzz RGZ HLZ
  have HZZ := Lib.hid hzz
  clear hzz hyc
  have q_hg : decide (x.dv < 0) = false := decide_eq_false (by omega)
  have q_hl : decide (6 ≤ x.dv) = false := decide_eq_false (by omega)
  have q_r1 : decide (x.rq < 1) = false := decide_eq_false (by omega)
  have q_r2 : decide (1099511627776 < x.rq) = false := decide_eq_false (by omega)
  have HLK : Hid (∀ wx : World, Below w.heap.size w wx → Calls Try.prog 39 #[.slice x.A x.n x.c] wx fun e w' => e = .returned (.int .i64 (lchk x.f)) ∧ Below wx.heap.size wx w') := Lib.hid (fun wx hb => rlcheck_any x.A x.n x.c x.f wx h.len ((h.see.below hb).more hb.size) h.cap)
  obtain ⟨ip, hip⟩ : ∃ c, c = lchk x.f := ⟨_, rfl⟩
  rw [← hip] at HLK
  have HIP := Lib.hid hip
  clear hip
  have b0 : (ip == 0) = true := by rw [HIP.out]; simp [hp]
  have HMK : Hid (∀ wx : World, Calls Try.prog 40 #[.int .u32 (x.ms.toNat : Int)] wx fun e w' => e = .returned (.bool false) ∧ wx = w') := Lib.hid (fun wx => by
    have h0 := rmcheck_any x.ms wx
    rwa [decide_eq_false hm] at h0)
  have hHT : R = false := by rw [HR.out]; exact decide_eq_false (fun k => hm ((cok_3 hk).1 k).2.2.2.1)
  have HT := Lib.hid hHT
  clear hHT
  clear hk
  go_enter Try.func15, Try.ntmps15
  go_wp2_with (first
    | (refine wpList_load_mid rfl 32 (.tmp 1) rfl w.heap.size 0 rfl xc _ RG0 huc rfl (by rw [HLC.out]; exact info_cm) ?_
       simp only [Act.put, List.setIfInBounds_toArray, List.set_cons_zero, List.set_cons_succ])
    | (refine wpList_store_asC rfl 32 (.tmp 3) (.tmp 4) rfl (w.heap.size + 1) 0 xc.toArray rfl rfl (by simpa [HLC.out] using TH1) (by simpa [HLC.out] using info_cm) HON.out W1 HW1.out ?_)
    | (refine wpList_store_i rfl 3 (.tmp 34) (.const (.int .i64 0)) rfl (w.heap.size + 1) 30 .i64 0 rfl rfl _ info_i C30.out F30.out W2 HW2.out ?_)
    | (refine wpList_store_i rfl 3 (.tmp 35) (.const (.int .i64 0)) rfl (w.heap.size + 1) 31 .i64 0 rfl rfl _ info_i C31.out F31.out W3 HW3.out ?_)
    | (refine wpList_store_s rfl 30 (.tmp 92) (.const (.slice none 0 0)) rfl (w.heap.size + 1) 61 none 0 0 rfl rfl _ info_f C61.out F61.out W4 HW4.out ?_)
    | (refine wpList_store_i rfl 22 (.tmp 93) (.const (.int .u32 0)) rfl (w.heap.size + 1) 62 .u32 0 rfl rfl _ info_m C62.out F62.out W5 HW5.out ?_)
    | (refine wpList_load_mid rfl 32 (.tmp 3) rfl (w.heap.size + 1) 0 rfl yc _ RGZ huc rfl (by rw [HLZ.out]; exact info_cm) ?_; simp only [Act.put, List.setIfInBounds_toArray, List.set_cons_zero, List.set_cons_succ])
    | fail)
  refine HZZ.out.mono ?_
  rintro e wz ⟨rfl, hbz⟩
  have HSZ := Lib.hid (S5.out.later hbz)
  have kz_61 := HSZ.out.a.cell HPX.out.2.2.2.2.2.2.1
  have HBE := Lib.hid HSZ.out.be
  clear hbz
  go_wp2_with (first
    | (refine wpList_load_mid rfl 32 (.tmp 1) rfl w.heap.size 0 rfl xc _ RG0 huc rfl (by rw [HLC.out]; exact info_cm) ?_
       simp only [Act.put, List.setIfInBounds_toArray, List.set_cons_zero, List.set_cons_succ])
    | (refine wpList_store_asC rfl 32 (.tmp 3) (.tmp 4) rfl (w.heap.size + 1) 0 xc.toArray rfl rfl (by simpa [HLC.out] using TH1) (by simpa [HLC.out] using info_cm) HON.out W1 HW1.out ?_)
    | fail)
  refine (HLK.out _ HSZ.out.be).mono ?_
  rintro e wy ⟨rfl, hby⟩
  have HSY := Lib.hid (HSZ.out.later hby)
  have ky_62 := HSY.out.a.cell HPX.out.2.2.2.2.2.2.2
  have HBE := Lib.hid HSY.out.be
  clear hby kz_61
  go_wp2_with (first
    | (refine wpList_load_mid rfl 32 (.tmp 1) rfl w.heap.size 0 rfl xc _ RG0 huc rfl (by rw [HLC.out]; exact info_cm) ?_
       simp only [Act.put, List.setIfInBounds_toArray, List.set_cons_zero, List.set_cons_succ])
    | (refine wpList_store_asC rfl 32 (.tmp 3) (.tmp 4) rfl (w.heap.size + 1) 0 xc.toArray rfl rfl (by simpa [HLC.out] using TH1) (by simpa [HLC.out] using info_cm) HON.out W1 HW1.out ?_)
    | fail)
  refine (HMK.out _).mono ?_
  rintro e wq ⟨rfl, rfl⟩
  go_wp2_with (first
    | (refine wpList_load_mid rfl 32 (.tmp 1) rfl w.heap.size 0 rfl xc _ RG0 huc rfl (by rw [HLC.out]; exact info_cm) ?_
       simp only [Act.put, List.setIfInBounds_toArray, List.set_cons_zero, List.set_cons_succ])
    | (refine wpList_store_asC rfl 32 (.tmp 3) (.tmp 4) rfl (w.heap.size + 1) 0 xc.toArray rfl rfl (by simpa [HLC.out] using TH1) (by simpa [HLC.out] using info_cm) HON.out W1 HW1.out ?_)
    | fail)
  go_ret
  exact ⟨by first | rfl | (rw [HT.out]; rfl), HBE.out⟩
end Go.Proofs.Ytnhcjadkbogioaa

/- Commands: which may be, by the document: 3, d. -/
namespace Go.Proofs.Ytnhcjadkbogioaa
set_option linter.unusedVariables false
set_option linter.unusedSimpArgs false
open Go Go.RowKit OctM

set_option maxRecDepth 100000 in
set_option maxHeartbeats 6400000 in
theorem rccheck_3d (x : Cm) (w : World) (h : okCm w x) (hk : x.kd = 3) (hg : 0 ≤ x.dv) (hl : x.dv < 6) (r1 : 1 ≤ x.rq) (r2 : x.rq ≤ 1099511627776) (z : cz (y3 x)) (hp : lchk x.f = 0) (hm : x.ms.toNat ≤ 511) :
    Calls Try.prog 15 #[.agg (cmc x).toArray] w fun e w' => e = .returned (.bool (decide (cok x))) ∧ Below w.heap.size w w' := by
  have hue := Try.underlying29
  have hup := Try.underlying27
  have huc := Try.underlying32
  obtain ⟨hs1, hth⟩ := CkSt.new w x h.e8 h.p8
  have B0 := Blk.new w (cmc x) 32
  have RG0 := B0.range 0 (cmc x) (by rw [List.drop_zero, List.take_length])
  have honc := all_oneCell_toArray (cmc_one x)
  have HLC := Lib.hid (cmc_len h.e8 h.p8)
  have HPX := Lib.hid (cm_at h.e8 h.p8)
  obtain ⟨xc, hxc⟩ : ∃ c, c = cmc x := ⟨_, rfl⟩
  obtain ⟨W1, hW1⟩ : ∃ W1, W1 = ((w.alloc (.cells (cmc x).toArray 32)).alloc (.cells #[.int .i64 0, .int .i64 0, .int .i64 0, .int .i64 0, .int .u32 0, .int .u32 0, .int .i64 0, .int .i64 0, .string ⟨#[]⟩, .int .i64 0, .int .i64 0, .string ⟨#[]⟩, .int .i64 0, .int .i64 0, .string ⟨#[]⟩, .int .i64 0, .int .i64 0, .string ⟨#[]⟩, .int .i64 0, .int .i64 0, .string ⟨#[]⟩, .int .i64 0, .int .i64 0, .string ⟨#[]⟩, .int .i64 0, .int .i64 0, .string ⟨#[]⟩, .int .i64 0, .int .i64 0, .string ⟨#[]⟩, .int .i64 0, .int .i64 0, .int .i64 0, .int .i64 0, .int .i64 0, .int .u32 0, .int .u32 0, .int .i64 0, .int .i64 0, .string ⟨#[]⟩, .int .i64 0, .int .i64 0, .string ⟨#[]⟩, .int .i64 0, .int .i64 0, .string ⟨#[]⟩, .int .i64 0, .int .i64 0, .string ⟨#[]⟩, .int .i64 0, .int .i64 0, .string ⟨#[]⟩, .int .i64 0, .int .i64 0, .string ⟨#[]⟩, .int .i64 0, .int .i64 0, .string ⟨#[]⟩, .int .i64 0, .int .i64 0, .string ⟨#[]⟩, .slice none 0 0, .int .u32 0] 32)).setCells (w.heap.size + 1) 0 (cmc x) := ⟨_, rfl⟩
  rw [← hW1] at hs1
  rw [← hxc] at hW1 RG0 honc HLC hth ⊢
  have HS1 := Lib.hid hs1
  have HW1 := Lib.hid hW1
  have HON := Lib.hid honc
  have TH1 := hth
  obtain ⟨R, hR⟩ : ∃ R, R = decide (cok x) := ⟨_, rfl⟩
  rw [← hR]
  have HR := Lib.hid hR
  have e1 : (x.kd == 1) = false := by rw [hk]; rfl
  have e5 : (x.kd == 5) = false := by rw [hk]; rfl
  have e2 : (x.kd == 2) = false := by rw [hk]; rfl
  have e3 : (x.kd == 3) = true := by rw [hk]; rfl
  have e4 : (x.kd == 4) = false := by rw [hk]; rfl
  have ka_kd := HS1.out.a.cell HPX.out.1
  clear hs1 hth hxc hW1 honc hR B0
  have S2 := HS1.out.set 30 (.int .i64 0) (cm_sets HS1.out.y1 HS1.out.y2 0 0#32).2.1 HS1.out.y1 HS1.out.y2
  have S2 : CkSt w x _ (W1.setCell ⟨w.heap.size + 1, 30, none⟩ (.int .i64 0)) := S2
  obtain ⟨W2, hW2⟩ : ∃ W, W = W1.setCell ⟨w.heap.size + 1, 30, none⟩ (.int .i64 0) := ⟨_, rfl⟩
  rw [← hW2] at S2
  have C30 := Lib.hid (HS1.out.b.cell (cm_at HS1.out.y1 HS1.out.y2).2.1)
  have F30 := Lib.hid (HS1.out.b.frozen 30)
  have HW2 := Lib.hid hW2
  have S2 := Lib.hid S2
  clear hW2
  have S3 := S2.out.set 31 (.int .i64 0) (cm_sets S2.out.y1 S2.out.y2 0 0#32).2.2.1 S2.out.y1 S2.out.y2
  have S3 : CkSt w x _ (W2.setCell ⟨w.heap.size + 1, 31, none⟩ (.int .i64 0)) := S3
  obtain ⟨W3, hW3⟩ : ∃ W, W = W2.setCell ⟨w.heap.size + 1, 31, none⟩ (.int .i64 0) := ⟨_, rfl⟩
  rw [← hW3] at S3
  have C31 := Lib.hid (S2.out.b.cell (cm_at S2.out.y1 S2.out.y2).2.2.1)
  have F31 := Lib.hid (S2.out.b.frozen 31)
  have HW3 := Lib.hid hW3
  have S3 := Lib.hid S3
  clear hW3
  have kc_kd := S3.out.a.cell HPX.out.1
  have kc_30 := S3.out.a.cell HPX.out.2.1
  have kc_31 := S3.out.a.cell HPX.out.2.2.1
  have S4 := S3.out.set 61 (.slice none 0 0) (cm_sets S3.out.y1 S3.out.y2 0 0#32).2.2.2.2.2.2.1 S3.out.y1 S3.out.y2
  have S4 : CkSt w x _ (W3.setCell ⟨w.heap.size + 1, 61, none⟩ (.slice none 0 0)) := S4
  obtain ⟨W4, hW4⟩ : ∃ W, W = W3.setCell ⟨w.heap.size + 1, 61, none⟩ (.slice none 0 0) := ⟨_, rfl⟩
  rw [← hW4] at S4
  have C61 := Lib.hid (S3.out.b.cell (cm_at S3.out.y1 S3.out.y2).2.2.2.2.2.2.1)
  have F61 := Lib.hid (S3.out.b.frozen 61)
  have HW4 := Lib.hid hW4
  have S4 := Lib.hid S4
  clear hW4
  have S5 := S4.out.set 62 (.int .u32 ((0#32 : BitVec 32).toNat : Int)) (cm_sets S4.out.y1 S4.out.y2 0 0#32).2.2.2.2.2.2.2 S4.out.y1 S4.out.y2
  have S5 : CkSt w x (q3 x) (W4.setCell ⟨w.heap.size + 1, 62, none⟩ (.int .u32 0)) := S5
  obtain ⟨W5, hW5⟩ : ∃ W, W = W4.setCell ⟨w.heap.size + 1, 62, none⟩ (.int .u32 0) := ⟨_, rfl⟩
  rw [← hW5] at S5
  have C62 := Lib.hid (S4.out.b.cell (cm_at S4.out.y1 S4.out.y2).2.2.2.2.2.2.2)
  have F62 := Lib.hid (S4.out.b.frozen 62)
  have HW5 := Lib.hid hW5
  have S5 := Lib.hid S5
  clear hW5
  have hzz := rczero_any (q3 x) W5 ⟨S5.out.y1, S5.out.y2, rfl, Nat.le_refl 0, Nat.zero_le _, fun hp => absurd hp (Nat.lt_irrefl 0)⟩
  have RGZ := S5.out.b.range 0 (cmc (q3 x)) (by rw [List.drop_zero, List.take_length])
  have HLZ := Lib.hid (cmc_len S5.out.y1 S5.out.y2)
  rw [decide_eq_true (show cz (q3 x) from z)] at hzz
  obtain ⟨yc, hyc⟩ : ∃ c, c = cmc (q3 x) := ⟨_, rfl⟩
  rw [← hyc] at hzz RGZ HLZ
  have HZZ := Lib.hid hzz
  clear hzz hyc
  have q_hg : decide (x.dv < 0) = false := decide_eq_false (by omega)
  have q_hl : decide (6 ≤ x.dv) = false := decide_eq_false (by omega)
  have q_r1 : decide (x.rq < 1) = false := decide_eq_false (by omega)
  have q_r2 : decide (1099511627776 < x.rq) = false := decide_eq_false (by omega)
  have HLK : Hid (∀ wx : World, Below w.heap.size w wx → Calls Try.prog 39 #[.slice x.A x.n x.c] wx fun e w' => e = .returned (.int .i64 (lchk x.f)) ∧ Below wx.heap.size wx w') := Lib.hid (fun wx hb => rlcheck_any x.A x.n x.c x.f wx h.len ((h.see.below hb).more hb.size) h.cap)
  obtain ⟨ip, hip⟩ : ∃ c, c = lchk x.f := ⟨_, rfl⟩
  rw [← hip] at HLK
  have HIP := Lib.hid hip
  clear hip
  have b0 : (ip == 0) = true := by rw [HIP.out]; simp [hp]
  have HMK : Hid (∀ wx : World, Calls Try.prog 40 #[.int .u32 (x.ms.toNat : Int)] wx fun e w' => e = .returned (.bool true) ∧ wx = w') := Lib.hid (fun wx => by
    have h0 := rmcheck_any x.ms wx
    rwa [decide_eq_true hm] at h0)
  have hHT : R = true := by rw [HR.out]; exact decide_eq_true ((cok_3 hk).2 ⟨⟨hg, hl⟩, ⟨r1, r2⟩, hp, hm, z⟩)
  have HT := Lib.hid hHT
  clear hHT
  clear hk
  go_enter Try.func15, Try.ntmps15
  go_wp2_with (first
    | (refine wpList_load_mid rfl 32 (.tmp 1) rfl w.heap.size 0 rfl xc _ RG0 huc rfl (by rw [HLC.out]; exact info_cm) ?_
       simp only [Act.put, List.setIfInBounds_toArray, List.set_cons_zero, List.set_cons_succ])
    | (refine wpList_store_asC rfl 32 (.tmp 3) (.tmp 4) rfl (w.heap.size + 1) 0 xc.toArray rfl rfl (by simpa [HLC.out] using TH1) (by simpa [HLC.out] using info_cm) HON.out W1 HW1.out ?_)
    | (refine wpList_store_i rfl 3 (.tmp 34) (.const (.int .i64 0)) rfl (w.heap.size + 1) 30 .i64 0 rfl rfl _ info_i C30.out F30.out W2 HW2.out ?_)
    | (refine wpList_store_i rfl 3 (.tmp 35) (.const (.int .i64 0)) rfl (w.heap.size + 1) 31 .i64 0 rfl rfl _ info_i C31.out F31.out W3 HW3.out ?_)
    | (refine wpList_store_s rfl 30 (.tmp 92) (.const (.slice none 0 0)) rfl (w.heap.size + 1) 61 none 0 0 rfl rfl _ info_f C61.out F61.out W4 HW4.out ?_)
    | (refine wpList_store_i rfl 22 (.tmp 93) (.const (.int .u32 0)) rfl (w.heap.size + 1) 62 .u32 0 rfl rfl _ info_m C62.out F62.out W5 HW5.out ?_)
    | (refine wpList_load_mid rfl 32 (.tmp 3) rfl (w.heap.size + 1) 0 rfl yc _ RGZ huc rfl (by rw [HLZ.out]; exact info_cm) ?_; simp only [Act.put, List.setIfInBounds_toArray, List.set_cons_zero, List.set_cons_succ])
    | fail)
  refine HZZ.out.mono ?_
  rintro e wz ⟨rfl, hbz⟩
  have HSZ := Lib.hid (S5.out.later hbz)
  have kz_61 := HSZ.out.a.cell HPX.out.2.2.2.2.2.2.1
  have HBE := Lib.hid HSZ.out.be
  clear hbz
  go_wp2_with (first
    | (refine wpList_load_mid rfl 32 (.tmp 1) rfl w.heap.size 0 rfl xc _ RG0 huc rfl (by rw [HLC.out]; exact info_cm) ?_
       simp only [Act.put, List.setIfInBounds_toArray, List.set_cons_zero, List.set_cons_succ])
    | (refine wpList_store_asC rfl 32 (.tmp 3) (.tmp 4) rfl (w.heap.size + 1) 0 xc.toArray rfl rfl (by simpa [HLC.out] using TH1) (by simpa [HLC.out] using info_cm) HON.out W1 HW1.out ?_)
    | fail)
  refine (HLK.out _ HSZ.out.be).mono ?_
  rintro e wy ⟨rfl, hby⟩
  have HSY := Lib.hid (HSZ.out.later hby)
  have ky_62 := HSY.out.a.cell HPX.out.2.2.2.2.2.2.2
  have HBE := Lib.hid HSY.out.be
  clear hby kz_61
  go_wp2_with (first
    | (refine wpList_load_mid rfl 32 (.tmp 1) rfl w.heap.size 0 rfl xc _ RG0 huc rfl (by rw [HLC.out]; exact info_cm) ?_
       simp only [Act.put, List.setIfInBounds_toArray, List.set_cons_zero, List.set_cons_succ])
    | (refine wpList_store_asC rfl 32 (.tmp 3) (.tmp 4) rfl (w.heap.size + 1) 0 xc.toArray rfl rfl (by simpa [HLC.out] using TH1) (by simpa [HLC.out] using info_cm) HON.out W1 HW1.out ?_)
    | fail)
  refine (HMK.out _).mono ?_
  rintro e wq ⟨rfl, rfl⟩
  go_wp2_with (first
    | (refine wpList_load_mid rfl 32 (.tmp 1) rfl w.heap.size 0 rfl xc _ RG0 huc rfl (by rw [HLC.out]; exact info_cm) ?_
       simp only [Act.put, List.setIfInBounds_toArray, List.set_cons_zero, List.set_cons_succ])
    | (refine wpList_store_asC rfl 32 (.tmp 3) (.tmp 4) rfl (w.heap.size + 1) 0 xc.toArray rfl rfl (by simpa [HLC.out] using TH1) (by simpa [HLC.out] using info_cm) HON.out W1 HW1.out ?_)
    | fail)
  go_ret
  exact ⟨by first | rfl | (rw [HT.out]; rfl), HBE.out⟩
end Go.Proofs.Ytnhcjadkbogioaa

/- Commands: which may be, by the document: 2, a. -/
namespace Go.Proofs.Ytnhcjadkbogioaa
set_option linter.unusedVariables false
set_option linter.unusedSimpArgs false
open Go Go.RowKit OctM

set_option maxRecDepth 100000 in
set_option maxHeartbeats 6400000 in
theorem rccheck_2a (x : Cm) (w : World) (h : okCm w x) (hk : x.kd = 2) (hg : 0 ≤ x.dv) (hl : x.dv < 6) (r1 : 1 ≤ x.rq) (r2 : x.rq ≤ 1099511627776) (z : ¬ (cz (y2 x))) :
    Calls Try.prog 15 #[.agg (cmc x).toArray] w fun e w' => e = .returned (.bool (decide (cok x))) ∧ Below w.heap.size w w' := by
  have hue := Try.underlying29
  have hup := Try.underlying27
  have huc := Try.underlying32
  obtain ⟨hs1, hth⟩ := CkSt.new w x h.e8 h.p8
  have B0 := Blk.new w (cmc x) 32
  have RG0 := B0.range 0 (cmc x) (by rw [List.drop_zero, List.take_length])
  have honc := all_oneCell_toArray (cmc_one x)
  have HLC := Lib.hid (cmc_len h.e8 h.p8)
  have HPX := Lib.hid (cm_at h.e8 h.p8)
  obtain ⟨xc, hxc⟩ : ∃ c, c = cmc x := ⟨_, rfl⟩
  obtain ⟨W1, hW1⟩ : ∃ W1, W1 = ((w.alloc (.cells (cmc x).toArray 32)).alloc (.cells #[.int .i64 0, .int .i64 0, .int .i64 0, .int .i64 0, .int .u32 0, .int .u32 0, .int .i64 0, .int .i64 0, .string ⟨#[]⟩, .int .i64 0, .int .i64 0, .string ⟨#[]⟩, .int .i64 0, .int .i64 0, .string ⟨#[]⟩, .int .i64 0, .int .i64 0, .string ⟨#[]⟩, .int .i64 0, .int .i64 0, .string ⟨#[]⟩, .int .i64 0, .int .i64 0, .string ⟨#[]⟩, .int .i64 0, .int .i64 0, .string ⟨#[]⟩, .int .i64 0, .int .i64 0, .string ⟨#[]⟩, .int .i64 0, .int .i64 0, .int .i64 0, .int .i64 0, .int .i64 0, .int .u32 0, .int .u32 0, .int .i64 0, .int .i64 0, .string ⟨#[]⟩, .int .i64 0, .int .i64 0, .string ⟨#[]⟩, .int .i64 0, .int .i64 0, .string ⟨#[]⟩, .int .i64 0, .int .i64 0, .string ⟨#[]⟩, .int .i64 0, .int .i64 0, .string ⟨#[]⟩, .int .i64 0, .int .i64 0, .string ⟨#[]⟩, .int .i64 0, .int .i64 0, .string ⟨#[]⟩, .int .i64 0, .int .i64 0, .string ⟨#[]⟩, .slice none 0 0, .int .u32 0] 32)).setCells (w.heap.size + 1) 0 (cmc x) := ⟨_, rfl⟩
  rw [← hW1] at hs1
  rw [← hxc] at hW1 RG0 honc HLC hth ⊢
  have HS1 := Lib.hid hs1
  have HW1 := Lib.hid hW1
  have HON := Lib.hid honc
  have TH1 := hth
  obtain ⟨R, hR⟩ : ∃ R, R = decide (cok x) := ⟨_, rfl⟩
  rw [← hR]
  have HR := Lib.hid hR
  have e1 : (x.kd == 1) = false := by rw [hk]; rfl
  have e5 : (x.kd == 5) = false := by rw [hk]; rfl
  have e2 : (x.kd == 2) = true := by rw [hk]; rfl
  have e3 : (x.kd == 3) = false := by rw [hk]; rfl
  have e4 : (x.kd == 4) = false := by rw [hk]; rfl
  have ka_kd := HS1.out.a.cell HPX.out.1
  clear hs1 hth hxc hW1 honc hR B0
  have S2 := HS1.out.set 30 (.int .i64 0) (cm_sets HS1.out.y1 HS1.out.y2 0 0#32).2.1 HS1.out.y1 HS1.out.y2
  have S2 : CkSt w x _ (W1.setCell ⟨w.heap.size + 1, 30, none⟩ (.int .i64 0)) := S2
  obtain ⟨W2, hW2⟩ : ∃ W, W = W1.setCell ⟨w.heap.size + 1, 30, none⟩ (.int .i64 0) := ⟨_, rfl⟩
  rw [← hW2] at S2
  have C30 := Lib.hid (HS1.out.b.cell (cm_at HS1.out.y1 HS1.out.y2).2.1)
  have F30 := Lib.hid (HS1.out.b.frozen 30)
  have HW2 := Lib.hid hW2
  have S2 := Lib.hid S2
  clear hW2
  have S3 := S2.out.set 31 (.int .i64 0) (cm_sets S2.out.y1 S2.out.y2 0 0#32).2.2.1 S2.out.y1 S2.out.y2
  have S3 : CkSt w x _ (W2.setCell ⟨w.heap.size + 1, 31, none⟩ (.int .i64 0)) := S3
  obtain ⟨W3, hW3⟩ : ∃ W, W = W2.setCell ⟨w.heap.size + 1, 31, none⟩ (.int .i64 0) := ⟨_, rfl⟩
  rw [← hW3] at S3
  have C31 := Lib.hid (S2.out.b.cell (cm_at S2.out.y1 S2.out.y2).2.2.1)
  have F31 := Lib.hid (S2.out.b.frozen 31)
  have HW3 := Lib.hid hW3
  have S3 := Lib.hid S3
  clear hW3
  have kc_kd := S3.out.a.cell HPX.out.1
  have kc_30 := S3.out.a.cell HPX.out.2.1
  have kc_31 := S3.out.a.cell HPX.out.2.2.1
  have S4 := S3.out.set 32 (.int .i64 0) (cm_sets S3.out.y1 S3.out.y2 0 0#32).2.2.2.1 S3.out.y1 S3.out.y2
  have S4 : CkSt w x _ (W3.setCell ⟨w.heap.size + 1, 32, none⟩ (.int .i64 0)) := S4
  obtain ⟨W4, hW4⟩ : ∃ W, W = W3.setCell ⟨w.heap.size + 1, 32, none⟩ (.int .i64 0) := ⟨_, rfl⟩
  rw [← hW4] at S4
  have C32 := Lib.hid (S3.out.b.cell (cm_at S3.out.y1 S3.out.y2).2.2.2.1)
  have F32 := Lib.hid (S3.out.b.frozen 32)
  have HW4 := Lib.hid hW4
  have S4 := Lib.hid S4
  clear hW4
  have S5 := S4.out.set 33 (.int .i64 0) (cm_sets S4.out.y1 S4.out.y2 0 0#32).2.2.2.2.1 S4.out.y1 S4.out.y2
  have S5 : CkSt w x _ (W4.setCell ⟨w.heap.size + 1, 33, none⟩ (.int .i64 0)) := S5
  obtain ⟨W5, hW5⟩ : ∃ W, W = W4.setCell ⟨w.heap.size + 1, 33, none⟩ (.int .i64 0) := ⟨_, rfl⟩
  rw [← hW5] at S5
  have C33 := Lib.hid (S4.out.b.cell (cm_at S4.out.y1 S4.out.y2).2.2.2.2.1)
  have F33 := Lib.hid (S4.out.b.frozen 33)
  have HW5 := Lib.hid hW5
  have S5 := Lib.hid S5
  clear hW5
  have hs6 := S5.out.setP
  have THP := S5.out.b.there 35 26 (by rw [cmc_len S5.out.y1 S5.out.y2]; omega)
  obtain ⟨W6, hW6⟩ : ∃ W, W = W5.setCells (w.heap.size + 1) 35 (pcells 0 0 zeros) := ⟨_, rfl⟩
  rw [← hW6] at hs6
  have hs6 : CkSt w x (q2 x) W6 := hs6
  have HS6 := Lib.hid hs6
  have HW6 := Lib.hid hW6
  have HONP := Lib.hid (all_oneCell_toArray (pcells_one 0 0 zeros))
  clear hs6 hW6
  have hzz := rczero_any (q2 x) W6 ⟨HS6.out.y1, HS6.out.y2, h.len, h.cap, h.max, ((h.see.below HS6.out.be).more HS6.out.be.size)⟩
  have RGZ := HS6.out.b.range 0 (cmc (q2 x)) (by rw [List.drop_zero, List.take_length])
  have HLZ := Lib.hid (cmc_len HS6.out.y1 HS6.out.y2)
  rw [decide_eq_false (show ¬ cz (q2 x) from z)] at hzz
  obtain ⟨yc, hyc⟩ : ∃ c, c = cmc (q2 x) := ⟨_, rfl⟩
  rw [← hyc] at hzz RGZ HLZ
  have HZZ := Lib.hid hzz
  clear hzz hyc
  have q_hg : decide (x.dv < 0) = false := decide_eq_false (by omega)
  have q_hl : decide (6 ≤ x.dv) = false := decide_eq_false (by omega)
  have q_r1 : decide (x.rq < 1) = false := decide_eq_false (by omega)
  have q_r2 : decide (1099511627776 < x.rq) = false := decide_eq_false (by omega)
  have hHT : R = false := by rw [HR.out]; exact decide_eq_false (fun k => z ((cok_2 hk).1 k).2.2.2.2.2)
  have HT := Lib.hid hHT
  clear hHT
  clear hk
  go_enter Try.func15, Try.ntmps15
  go_wp2_with (first
    | (refine wpList_load_mid rfl 32 (.tmp 1) rfl w.heap.size 0 rfl xc _ RG0 huc rfl (by rw [HLC.out]; exact info_cm) ?_
       simp only [Act.put, List.setIfInBounds_toArray, List.set_cons_zero, List.set_cons_succ])
    | (refine wpList_store_asC rfl 32 (.tmp 3) (.tmp 4) rfl (w.heap.size + 1) 0 xc.toArray rfl rfl (by simpa [HLC.out] using TH1) (by simpa [HLC.out] using info_cm) HON.out W1 HW1.out ?_)
    | (refine wpList_store_i rfl 3 (.tmp 34) (.const (.int .i64 0)) rfl (w.heap.size + 1) 30 .i64 0 rfl rfl _ info_i C30.out F30.out W2 HW2.out ?_)
    | (refine wpList_store_i rfl 3 (.tmp 35) (.const (.int .i64 0)) rfl (w.heap.size + 1) 31 .i64 0 rfl rfl _ info_i C31.out F31.out W3 HW3.out ?_)
    | (refine wpList_store_i rfl 3 (.tmp 58) (.const (.int .i64 0)) rfl (w.heap.size + 1) 32 .i64 0 rfl rfl _ info_i C32.out F32.out W4 HW4.out ?_)
    | (refine wpList_store_i rfl 3 (.tmp 59) (.const (.int .i64 0)) rfl (w.heap.size + 1) 33 .i64 0 rfl rfl _ info_i C33.out F33.out W5 HW5.out ?_)
    | (refine wpList_store_asC rfl 27 (.tmp 61) (.tmp 60) rfl (w.heap.size + 1) 35 (pcells 0 0 zeros).toArray rfl rfl THP info_patch HONP.out W6 HW6.out ?_)
    | (refine wpList_load_mid rfl 32 (.tmp 3) rfl (w.heap.size + 1) 0 rfl yc _ RGZ huc rfl (by rw [HLZ.out]; exact info_cm) ?_; simp only [Act.put, List.setIfInBounds_toArray, List.set_cons_zero, List.set_cons_succ])
    | fail)
  refine HZZ.out.mono ?_
  rintro e wz ⟨rfl, hbz⟩
  have HSZ := Lib.hid (HS6.out.later hbz)
  have kz_32 := HSZ.out.a.cell HPX.out.2.2.2.1
  have kz_33 := HSZ.out.a.cell HPX.out.2.2.2.2.1
  have HBE := Lib.hid HSZ.out.be
  clear hbz
  go_wp2_with (first
    | (refine wpList_load_mid rfl 32 (.tmp 1) rfl w.heap.size 0 rfl xc _ RG0 huc rfl (by rw [HLC.out]; exact info_cm) ?_
       simp only [Act.put, List.setIfInBounds_toArray, List.set_cons_zero, List.set_cons_succ])
    | (refine wpList_store_asC rfl 32 (.tmp 3) (.tmp 4) rfl (w.heap.size + 1) 0 xc.toArray rfl rfl (by simpa [HLC.out] using TH1) (by simpa [HLC.out] using info_cm) HON.out W1 HW1.out ?_)
    | fail)
  go_ret
  exact ⟨by first | rfl | (rw [HT.out]; rfl), HBE.out⟩
end Go.Proofs.Ytnhcjadkbogioaa
