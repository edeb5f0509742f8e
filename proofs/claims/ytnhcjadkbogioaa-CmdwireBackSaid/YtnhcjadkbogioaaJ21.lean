/- Commands: which may be, by the document: 3, c. -/
import Derived.Test.YtnhcjadkbogioaaJ19
set_option maxRecDepth 100000
set_option maxHeartbeats 6400000
namespace Go.Proofs.Ytnhcjadkbogioaa
set_option linter.unusedVariables false
set_option linter.unusedSimpArgs false
open Go Go.RowKit OctM
theorem rccheck_3c (x : Cm) (w : World) (h : okCm w x) (hk : x.kd = 3) (hg : 0 ≤ x.dv) (hl : x.dv < 6) (r1 : 1 ≤ x.rq) (r2 : x.rq ≤ 1099511627776) (z : cz (y3 x)) (hp : lchk x.f = 0) (hm : ¬ (x.ms.toNat ≤ 511)) :
    Calls Try.prog 15 #[.agg (cmc x).toArray] w fun e w' => e = .returned (.bool (decide (cok x))) ∧ Below w.heap.size w w' := by
  have hue := Try.underlying29
  have hup := Try.underlying27
  have huc := Try.underlying32
  obtain ⟨hs1, hth⟩ := CkSt.new w x h.e8 h.p8
  have B0 := Blk.new w (cmc x) 32
  have RG0 := B0.range 0 (cmc x) (by rw [List.drop_zero, List.take_length])
  have honc := all_oneCell_toArray (cmc_one x)
  have HLC := hid (cmc_len h.e8 h.p8)
  have HPX := hid (cm_at h.e8 h.p8)
  obtain ⟨xc, hxc⟩ : ∃ c, c = cmc x := ⟨_, rfl⟩
  obtain ⟨W1, hW1⟩ : ∃ W1, W1 = ((w.alloc (.cells (cmc x).toArray 32)).alloc (.cells zA63 32)).setCells (w.heap.size + 1) 0 (cmc x) := ⟨_, rfl⟩
  rw [← hW1] at hs1
  rw [← hxc] at hW1 RG0 honc HLC hth ⊢
  have HS1 := hid hs1
  have HW1 := hid hW1
  have HON := hid honc
  have TH1 := hth
  obtain ⟨R, hR⟩ : ∃ R, R = decide (cok x) := ⟨_, rfl⟩
  rw [← hR]
  have HR := hid hR
  have e1 : (x.kd == 1) = false := by rw [hk]; rfl
  have e5 : (x.kd == 5) = false := by rw [hk]; rfl
  have e2 : (x.kd == 2) = false := by rw [hk]; rfl
  have e3 : (x.kd == 3) = true := by rw [hk]; rfl
  have e4 : (x.kd == 4) = false := by rw [hk]; rfl
  have ka_kd := HS1.out.a.cell HPX.out.1
  clear hs1 hth hxc hW1 honc hR B0
  have S2 := HS1.out.set 30 (.int .i64 0) (cm_sets HS1.out.y1 HS1.out.y2 0 0#32).2.1 HS1.out.y1 HS1.out.y2
  have S2 : CkSt w x _ (W1.setCell ⟨w.heap.size + 1, 30, none⟩ (.int .i64 0)) := S2
  obtain ⟨W2, hW2⟩ : ∃ W, W = W1.setCell ⟨w.heap.size + 1, 30, none⟩ (.int .i64 0) := ⟨_, rfl⟩
  rw [← hW2] at S2
  have C30 := hid (HS1.out.b.cell (cm_at HS1.out.y1 HS1.out.y2).2.1)
  have F30 := hid (HS1.out.b.frozen 30)
  have HW2 := hid hW2
  have S2 := hid S2
  clear hW2
  have S3 := S2.out.set 31 (.int .i64 0) (cm_sets S2.out.y1 S2.out.y2 0 0#32).2.2.1 S2.out.y1 S2.out.y2
  have S3 : CkSt w x _ (W2.setCell ⟨w.heap.size + 1, 31, none⟩ (.int .i64 0)) := S3
  obtain ⟨W3, hW3⟩ : ∃ W, W = W2.setCell ⟨w.heap.size + 1, 31, none⟩ (.int .i64 0) := ⟨_, rfl⟩
  rw [← hW3] at S3
  have C31 := hid (S2.out.b.cell (cm_at S2.out.y1 S2.out.y2).2.2.1)
  have F31 := hid (S2.out.b.frozen 31)
  have HW3 := hid hW3
  have S3 := hid S3
  clear hW3
  have kc_kd := S3.out.a.cell HPX.out.1
  have kc_30 := S3.out.a.cell HPX.out.2.1
  have kc_31 := S3.out.a.cell HPX.out.2.2.1
  have S4 := S3.out.set 61 (.slice none 0 0) (cm_sets S3.out.y1 S3.out.y2 0 0#32).2.2.2.2.2.2.1 S3.out.y1 S3.out.y2
  have S4 : CkSt w x _ (W3.setCell ⟨w.heap.size + 1, 61, none⟩ (.slice none 0 0)) := S4
  obtain ⟨W4, hW4⟩ : ∃ W, W = W3.setCell ⟨w.heap.size + 1, 61, none⟩ (.slice none 0 0) := ⟨_, rfl⟩
  rw [← hW4] at S4
  have C61 := hid (S3.out.b.cell (cm_at S3.out.y1 S3.out.y2).2.2.2.2.2.2.1)
  have F61 := hid (S3.out.b.frozen 61)
  have HW4 := hid hW4
  have S4 := hid S4
  clear hW4
  have S5 := S4.out.set 62 (.int .u32 ((0#32 : BitVec 32).toNat : Int)) (cm_sets S4.out.y1 S4.out.y2 0 0#32).2.2.2.2.2.2.2 S4.out.y1 S4.out.y2
  have S5 : CkSt w x (q3 x) (W4.setCell ⟨w.heap.size + 1, 62, none⟩ (.int .u32 0)) := S5
  obtain ⟨W5, hW5⟩ : ∃ W, W = W4.setCell ⟨w.heap.size + 1, 62, none⟩ (.int .u32 0) := ⟨_, rfl⟩
  rw [← hW5] at S5
  have C62 := hid (S4.out.b.cell (cm_at S4.out.y1 S4.out.y2).2.2.2.2.2.2.2)
  have F62 := hid (S4.out.b.frozen 62)
  have HW5 := hid hW5
  have S5 := hid S5
  clear hW5
  have hzz := rczero_any (q3 x) W5 ⟨S5.out.y1, S5.out.y2, rfl, Nat.le_refl 0, Nat.zero_le _, fun hp => absurd hp (Nat.lt_irrefl 0)⟩
  have RGZ := S5.out.b.range 0 (cmc (q3 x)) (by rw [List.drop_zero, List.take_length])
  have HLZ := hid (cmc_len S5.out.y1 S5.out.y2)
  rw [decide_eq_true (show cz (q3 x) from z)] at hzz
  obtain ⟨yc, hyc⟩ : ∃ c, c = cmc (q3 x) := ⟨_, rfl⟩
  rw [← hyc] at hzz RGZ HLZ
  have HZZ := hid hzz
  clear hzz hyc
  have q_hg : decide (x.dv < 0) = false := decide_eq_false (by omega)
  have q_hl : decide (6 ≤ x.dv) = false := decide_eq_false (by omega)
  have q_r1 : decide (x.rq < 1) = false := decide_eq_false (by omega)
  have q_r2 : decide (1099511627776 < x.rq) = false := decide_eq_false (by omega)
  have HLK : Hid (∀ wx : World, Below w.heap.size w wx → Calls Try.prog 39 #[.slice x.A x.n x.c] wx fun e w' => e = .returned (.int .i64 (lchk x.f)) ∧ Below wx.heap.size wx w') := hid (fun wx hb => rlcheck_any x.A x.n x.c x.f wx h.len ((h.see.below hb).more hb.size) h.cap)
  obtain ⟨ip, hip⟩ : ∃ c, c = lchk x.f := ⟨_, rfl⟩
  rw [← hip] at HLK
  have HIP := hid hip
  clear hip
  have b0 : (ip == 0) = true := by rw [HIP.out]; simp [hp]
  have HMK : Hid (∀ wx : World, Calls Try.prog 40 #[.int .u32 (x.ms.toNat : Int)] wx fun e w' => e = .returned (.bool false) ∧ wx = w') := hid (fun wx => by
    have h0 := rmcheck_any x.ms wx
    rwa [decide_eq_false hm] at h0)
  have hHT : R = false := by rw [HR.out]; exact decide_eq_false (fun k => hm ((cok_3 hk).1 k).2.2.2.1)
  have HT := hid hHT
  clear hHT
  clear hk
  go_enter Try.func15, Try.ntmps15
  go_wp2_with (first
    | (refine wpList_load_mid rfl 32 (.tmp 1) rfl w.heap.size 0 rfl xc _ RG0 huc rfl (by rw [HLC.out]; exact info_cm) ?_
       simp only [pq4])
    | (refine wpList_store_asC rfl 32 (.tmp 3) (.tmp 4) rfl (w.heap.size + 1) 0 xc.toArray rfl rfl (by simpa [HLC.out] using TH1) (by simpa [HLC.out] using info_cm) HON.out W1 HW1.out ?_)
    | (refine wpList_store_i rfl 3 (.tmp 34) (.const (.int .i64 0)) rfl (w.heap.size + 1) 30 .i64 0 rfl rfl _ info_i C30.out F30.out W2 HW2.out ?_)
    | (refine wpList_store_i rfl 3 (.tmp 35) (.const (.int .i64 0)) rfl (w.heap.size + 1) 31 .i64 0 rfl rfl _ info_i C31.out F31.out W3 HW3.out ?_)
    | (refine wpList_store_s rfl 30 (.tmp 92) (.const (.slice none 0 0)) rfl (w.heap.size + 1) 61 none 0 0 rfl rfl _ info_f C61.out F61.out W4 HW4.out ?_)
    | (refine wpList_store_i rfl 22 (.tmp 93) (.const (.int .u32 0)) rfl (w.heap.size + 1) 62 .u32 0 rfl rfl _ info_m C62.out F62.out W5 HW5.out ?_)
    | (refine wpList_load_mid rfl 32 (.tmp 3) rfl (w.heap.size + 1) 0 rfl yc _ RGZ huc rfl (by rw [HLZ.out]; exact info_cm) ?_; simp only [pq4])
    | fail)
  refine HZZ.out.mono ?_
  rintro e wz ⟨rfl, hbz⟩
  have HSZ := hid (S5.out.later hbz)
  have kz_61 := HSZ.out.a.cell HPX.out.2.2.2.2.2.2.1
  have HBE := hid HSZ.out.be
  clear hbz
  go_wp2_with fail
  refine (HLK.out _ HSZ.out.be).mono ?_
  rintro e wy ⟨rfl, hby⟩
  have HSY := hid (HSZ.out.later hby)
  have ky_62 := HSY.out.a.cell HPX.out.2.2.2.2.2.2.2
  have HBE := hid HSY.out.be
  clear hby kz_61
  go_wp2_with fail
  refine (HMK.out _).mono ?_
  rintro e wq ⟨rfl, rfl⟩
  go_wp2_with fail
  go_ret
  exact ⟨by first | rfl | (rw [HT.out]; rfl), HBE.out⟩
theorem rccheck_3d (x : Cm) (w : World) (h : okCm w x) (hk : x.kd = 3) (hg : 0 ≤ x.dv) (hl : x.dv < 6) (r1 : 1 ≤ x.rq) (r2 : x.rq ≤ 1099511627776) (z : cz (y3 x)) (hp : lchk x.f = 0) (hm : x.ms.toNat ≤ 511) :
    Calls Try.prog 15 #[.agg (cmc x).toArray] w fun e w' => e = .returned (.bool (decide (cok x))) ∧ Below w.heap.size w w' := by
  have hue := Try.underlying29
  have hup := Try.underlying27
  have huc := Try.underlying32
  obtain ⟨hs1, hth⟩ := CkSt.new w x h.e8 h.p8
  have B0 := Blk.new w (cmc x) 32
  have RG0 := B0.range 0 (cmc x) (by rw [List.drop_zero, List.take_length])
  have honc := all_oneCell_toArray (cmc_one x)
  have HLC := hid (cmc_len h.e8 h.p8)
  have HPX := hid (cm_at h.e8 h.p8)
  obtain ⟨xc, hxc⟩ : ∃ c, c = cmc x := ⟨_, rfl⟩
  obtain ⟨W1, hW1⟩ : ∃ W1, W1 = ((w.alloc (.cells (cmc x).toArray 32)).alloc (.cells zA63 32)).setCells (w.heap.size + 1) 0 (cmc x) := ⟨_, rfl⟩
  rw [← hW1] at hs1
  rw [← hxc] at hW1 RG0 honc HLC hth ⊢
  have HS1 := hid hs1
  have HW1 := hid hW1
  have HON := hid honc
  have TH1 := hth
  obtain ⟨R, hR⟩ : ∃ R, R = decide (cok x) := ⟨_, rfl⟩
  rw [← hR]
  have HR := hid hR
  have e1 : (x.kd == 1) = false := by rw [hk]; rfl
  have e5 : (x.kd == 5) = false := by rw [hk]; rfl
  have e2 : (x.kd == 2) = false := by rw [hk]; rfl
  have e3 : (x.kd == 3) = true := by rw [hk]; rfl
  have e4 : (x.kd == 4) = false := by rw [hk]; rfl
  have ka_kd := HS1.out.a.cell HPX.out.1
  clear hs1 hth hxc hW1 honc hR B0
  have S2 := HS1.out.set 30 (.int .i64 0) (cm_sets HS1.out.y1 HS1.out.y2 0 0#32).2.1 HS1.out.y1 HS1.out.y2
  have S2 : CkSt w x _ (W1.setCell ⟨w.heap.size + 1, 30, none⟩ (.int .i64 0)) := S2
  obtain ⟨W2, hW2⟩ : ∃ W, W = W1.setCell ⟨w.heap.size + 1, 30, none⟩ (.int .i64 0) := ⟨_, rfl⟩
  rw [← hW2] at S2
  have C30 := hid (HS1.out.b.cell (cm_at HS1.out.y1 HS1.out.y2).2.1)
  have F30 := hid (HS1.out.b.frozen 30)
  have HW2 := hid hW2
  have S2 := hid S2
  clear hW2
  have S3 := S2.out.set 31 (.int .i64 0) (cm_sets S2.out.y1 S2.out.y2 0 0#32).2.2.1 S2.out.y1 S2.out.y2
  have S3 : CkSt w x _ (W2.setCell ⟨w.heap.size + 1, 31, none⟩ (.int .i64 0)) := S3
  obtain ⟨W3, hW3⟩ : ∃ W, W = W2.setCell ⟨w.heap.size + 1, 31, none⟩ (.int .i64 0) := ⟨_, rfl⟩
  rw [← hW3] at S3
  have C31 := hid (S2.out.b.cell (cm_at S2.out.y1 S2.out.y2).2.2.1)
  have F31 := hid (S2.out.b.frozen 31)
  have HW3 := hid hW3
  have S3 := hid S3
  clear hW3
  have kc_kd := S3.out.a.cell HPX.out.1
  have kc_30 := S3.out.a.cell HPX.out.2.1
  have kc_31 := S3.out.a.cell HPX.out.2.2.1
  have S4 := S3.out.set 61 (.slice none 0 0) (cm_sets S3.out.y1 S3.out.y2 0 0#32).2.2.2.2.2.2.1 S3.out.y1 S3.out.y2
  have S4 : CkSt w x _ (W3.setCell ⟨w.heap.size + 1, 61, none⟩ (.slice none 0 0)) := S4
  obtain ⟨W4, hW4⟩ : ∃ W, W = W3.setCell ⟨w.heap.size + 1, 61, none⟩ (.slice none 0 0) := ⟨_, rfl⟩
  rw [← hW4] at S4
  have C61 := hid (S3.out.b.cell (cm_at S3.out.y1 S3.out.y2).2.2.2.2.2.2.1)
  have F61 := hid (S3.out.b.frozen 61)
  have HW4 := hid hW4
  have S4 := hid S4
  clear hW4
  have S5 := S4.out.set 62 (.int .u32 ((0#32 : BitVec 32).toNat : Int)) (cm_sets S4.out.y1 S4.out.y2 0 0#32).2.2.2.2.2.2.2 S4.out.y1 S4.out.y2
  have S5 : CkSt w x (q3 x) (W4.setCell ⟨w.heap.size + 1, 62, none⟩ (.int .u32 0)) := S5
  obtain ⟨W5, hW5⟩ : ∃ W, W = W4.setCell ⟨w.heap.size + 1, 62, none⟩ (.int .u32 0) := ⟨_, rfl⟩
  rw [← hW5] at S5
  have C62 := hid (S4.out.b.cell (cm_at S4.out.y1 S4.out.y2).2.2.2.2.2.2.2)
  have F62 := hid (S4.out.b.frozen 62)
  have HW5 := hid hW5
  have S5 := hid S5
  clear hW5
  have hzz := rczero_any (q3 x) W5 ⟨S5.out.y1, S5.out.y2, rfl, Nat.le_refl 0, Nat.zero_le _, fun hp => absurd hp (Nat.lt_irrefl 0)⟩
  have RGZ := S5.out.b.range 0 (cmc (q3 x)) (by rw [List.drop_zero, List.take_length])
  have HLZ := hid (cmc_len S5.out.y1 S5.out.y2)
  rw [decide_eq_true (show cz (q3 x) from z)] at hzz
  obtain ⟨yc, hyc⟩ : ∃ c, c = cmc (q3 x) := ⟨_, rfl⟩
  rw [← hyc] at hzz RGZ HLZ
  have HZZ := hid hzz
  clear hzz hyc
  have q_hg : decide (x.dv < 0) = false := decide_eq_false (by omega)
  have q_hl : decide (6 ≤ x.dv) = false := decide_eq_false (by omega)
  have q_r1 : decide (x.rq < 1) = false := decide_eq_false (by omega)
  have q_r2 : decide (1099511627776 < x.rq) = false := decide_eq_false (by omega)
  have HLK : Hid (∀ wx : World, Below w.heap.size w wx → Calls Try.prog 39 #[.slice x.A x.n x.c] wx fun e w' => e = .returned (.int .i64 (lchk x.f)) ∧ Below wx.heap.size wx w') := hid (fun wx hb => rlcheck_any x.A x.n x.c x.f wx h.len ((h.see.below hb).more hb.size) h.cap)
  obtain ⟨ip, hip⟩ : ∃ c, c = lchk x.f := ⟨_, rfl⟩
  rw [← hip] at HLK
  have HIP := hid hip
  clear hip
  have b0 : (ip == 0) = true := by rw [HIP.out]; simp [hp]
  have HMK : Hid (∀ wx : World, Calls Try.prog 40 #[.int .u32 (x.ms.toNat : Int)] wx fun e w' => e = .returned (.bool true) ∧ wx = w') := hid (fun wx => by
    have h0 := rmcheck_any x.ms wx
    rwa [decide_eq_true hm] at h0)
  have hHT : R = true := by rw [HR.out]; exact decide_eq_true ((cok_3 hk).2 ⟨⟨hg, hl⟩, ⟨r1, r2⟩, hp, hm, z⟩)
  have HT := hid hHT
  clear hHT
  clear hk
  go_enter Try.func15, Try.ntmps15
  go_wp2_with (first
    | (refine wpList_load_mid rfl 32 (.tmp 1) rfl w.heap.size 0 rfl xc _ RG0 huc rfl (by rw [HLC.out]; exact info_cm) ?_
       simp only [pq4])
    | (refine wpList_store_asC rfl 32 (.tmp 3) (.tmp 4) rfl (w.heap.size + 1) 0 xc.toArray rfl rfl (by simpa [HLC.out] using TH1) (by simpa [HLC.out] using info_cm) HON.out W1 HW1.out ?_)
    | (refine wpList_store_i rfl 3 (.tmp 34) (.const (.int .i64 0)) rfl (w.heap.size + 1) 30 .i64 0 rfl rfl _ info_i C30.out F30.out W2 HW2.out ?_)
    | (refine wpList_store_i rfl 3 (.tmp 35) (.const (.int .i64 0)) rfl (w.heap.size + 1) 31 .i64 0 rfl rfl _ info_i C31.out F31.out W3 HW3.out ?_)
    | (refine wpList_store_s rfl 30 (.tmp 92) (.const (.slice none 0 0)) rfl (w.heap.size + 1) 61 none 0 0 rfl rfl _ info_f C61.out F61.out W4 HW4.out ?_)
    | (refine wpList_store_i rfl 22 (.tmp 93) (.const (.int .u32 0)) rfl (w.heap.size + 1) 62 .u32 0 rfl rfl _ info_m C62.out F62.out W5 HW5.out ?_)
    | (refine wpList_load_mid rfl 32 (.tmp 3) rfl (w.heap.size + 1) 0 rfl yc _ RGZ huc rfl (by rw [HLZ.out]; exact info_cm) ?_; simp only [pq4])
    | fail)
  refine HZZ.out.mono ?_
  rintro e wz ⟨rfl, hbz⟩
  have HSZ := hid (S5.out.later hbz)
  have kz_61 := HSZ.out.a.cell HPX.out.2.2.2.2.2.2.1
  have HBE := hid HSZ.out.be
  clear hbz
  go_wp2_with fail
  refine (HLK.out _ HSZ.out.be).mono ?_
  rintro e wy ⟨rfl, hby⟩
  have HSY := hid (HSZ.out.later hby)
  have ky_62 := HSY.out.a.cell HPX.out.2.2.2.2.2.2.2
  have HBE := hid HSY.out.be
  clear hby kz_61
  go_wp2_with fail
  refine (HMK.out _).mono ?_
  rintro e wq ⟨rfl, rfl⟩
  go_wp2_with fail
  go_ret
  exact ⟨by first | rfl | (rw [HT.out]; rfl), HBE.out⟩
theorem rccheck_2a (x : Cm) (w : World) (h : okCm w x) (hk : x.kd = 2) (hg : 0 ≤ x.dv) (hl : x.dv < 6) (r1 : 1 ≤ x.rq) (r2 : x.rq ≤ 1099511627776) (z : ¬ (cz (y2 x))) :
    Calls Try.prog 15 #[.agg (cmc x).toArray] w fun e w' => e = .returned (.bool (decide (cok x))) ∧ Below w.heap.size w w' := by
  have hue := Try.underlying29
  have hup := Try.underlying27
  have huc := Try.underlying32
  obtain ⟨hs1, hth⟩ := CkSt.new w x h.e8 h.p8
  have B0 := Blk.new w (cmc x) 32
  have RG0 := B0.range 0 (cmc x) (by rw [List.drop_zero, List.take_length])
  have honc := all_oneCell_toArray (cmc_one x)
  have HLC := hid (cmc_len h.e8 h.p8)
  have HPX := hid (cm_at h.e8 h.p8)
  obtain ⟨xc, hxc⟩ : ∃ c, c = cmc x := ⟨_, rfl⟩
  obtain ⟨W1, hW1⟩ : ∃ W1, W1 = ((w.alloc (.cells (cmc x).toArray 32)).alloc (.cells zA63 32)).setCells (w.heap.size + 1) 0 (cmc x) := ⟨_, rfl⟩
  rw [← hW1] at hs1
  rw [← hxc] at hW1 RG0 honc HLC hth ⊢
  have HS1 := hid hs1
  have HW1 := hid hW1
  have HON := hid honc
  have TH1 := hth
  obtain ⟨R, hR⟩ : ∃ R, R = decide (cok x) := ⟨_, rfl⟩
  rw [← hR]
  have HR := hid hR
  have e1 : (x.kd == 1) = false := by rw [hk]; rfl
  have e5 : (x.kd == 5) = false := by rw [hk]; rfl
  have e2 : (x.kd == 2) = true := by rw [hk]; rfl
  have e3 : (x.kd == 3) = false := by rw [hk]; rfl
  have e4 : (x.kd == 4) = false := by rw [hk]; rfl
  have ka_kd := HS1.out.a.cell HPX.out.1
  clear hs1 hth hxc hW1 honc hR B0
  have S2 := HS1.out.set 30 (.int .i64 0) (cm_sets HS1.out.y1 HS1.out.y2 0 0#32).2.1 HS1.out.y1 HS1.out.y2
  have S2 : CkSt w x _ (W1.setCell ⟨w.heap.size + 1, 30, none⟩ (.int .i64 0)) := S2
  obtain ⟨W2, hW2⟩ : ∃ W, W = W1.setCell ⟨w.heap.size + 1, 30, none⟩ (.int .i64 0) := ⟨_, rfl⟩
  rw [← hW2] at S2
  have C30 := hid (HS1.out.b.cell (cm_at HS1.out.y1 HS1.out.y2).2.1)
  have F30 := hid (HS1.out.b.frozen 30)
  have HW2 := hid hW2
  have S2 := hid S2
  clear hW2
  have S3 := S2.out.set 31 (.int .i64 0) (cm_sets S2.out.y1 S2.out.y2 0 0#32).2.2.1 S2.out.y1 S2.out.y2
  have S3 : CkSt w x _ (W2.setCell ⟨w.heap.size + 1, 31, none⟩ (.int .i64 0)) := S3
  obtain ⟨W3, hW3⟩ : ∃ W, W = W2.setCell ⟨w.heap.size + 1, 31, none⟩ (.int .i64 0) := ⟨_, rfl⟩
  rw [← hW3] at S3
  have C31 := hid (S2.out.b.cell (cm_at S2.out.y1 S2.out.y2).2.2.1)
  have F31 := hid (S2.out.b.frozen 31)
  have HW3 := hid hW3
  have S3 := hid S3
  clear hW3
  have kc_kd := S3.out.a.cell HPX.out.1
  have kc_30 := S3.out.a.cell HPX.out.2.1
  have kc_31 := S3.out.a.cell HPX.out.2.2.1
  have S4 := S3.out.set 32 (.int .i64 0) (cm_sets S3.out.y1 S3.out.y2 0 0#32).2.2.2.1 S3.out.y1 S3.out.y2
  have S4 : CkSt w x _ (W3.setCell ⟨w.heap.size + 1, 32, none⟩ (.int .i64 0)) := S4
  obtain ⟨W4, hW4⟩ : ∃ W, W = W3.setCell ⟨w.heap.size + 1, 32, none⟩ (.int .i64 0) := ⟨_, rfl⟩
  rw [← hW4] at S4
  have C32 := hid (S3.out.b.cell (cm_at S3.out.y1 S3.out.y2).2.2.2.1)
  have F32 := hid (S3.out.b.frozen 32)
  have HW4 := hid hW4
  have S4 := hid S4
  clear hW4
  have S5 := S4.out.set 33 (.int .i64 0) (cm_sets S4.out.y1 S4.out.y2 0 0#32).2.2.2.2.1 S4.out.y1 S4.out.y2
  have S5 : CkSt w x _ (W4.setCell ⟨w.heap.size + 1, 33, none⟩ (.int .i64 0)) := S5
  obtain ⟨W5, hW5⟩ : ∃ W, W = W4.setCell ⟨w.heap.size + 1, 33, none⟩ (.int .i64 0) := ⟨_, rfl⟩
  rw [← hW5] at S5
  have C33 := hid (S4.out.b.cell (cm_at S4.out.y1 S4.out.y2).2.2.2.2.1)
  have F33 := hid (S4.out.b.frozen 33)
  have HW5 := hid hW5
  have S5 := hid S5
  clear hW5
  have hs6 := S5.out.setP
  have THP := S5.out.b.there 35 26 (by rw [cmc_len S5.out.y1 S5.out.y2]; omega)
  obtain ⟨W6, hW6⟩ : ∃ W, W = W5.setCells (w.heap.size + 1) 35 (pcells 0 0 zeros) := ⟨_, rfl⟩
  rw [← hW6] at hs6
  have hs6 : CkSt w x (q2 x) W6 := hs6
  have HS6 := hid hs6
  have HW6 := hid hW6
  have HONP := hid (all_oneCell_toArray (pcells_one 0 0 zeros))
  clear hs6 hW6
  have hzz := rczero_any (q2 x) W6 ⟨HS6.out.y1, HS6.out.y2, h.len, h.cap, h.max, ((h.see.below HS6.out.be).more HS6.out.be.size)⟩
  have RGZ := HS6.out.b.range 0 (cmc (q2 x)) (by rw [List.drop_zero, List.take_length])
  have HLZ := hid (cmc_len HS6.out.y1 HS6.out.y2)
  rw [decide_eq_false (show ¬ cz (q2 x) from z)] at hzz
  obtain ⟨yc, hyc⟩ : ∃ c, c = cmc (q2 x) := ⟨_, rfl⟩
  rw [← hyc] at hzz RGZ HLZ
  have HZZ := hid hzz
  clear hzz hyc
  have q_hg : decide (x.dv < 0) = false := decide_eq_false (by omega)
  have q_hl : decide (6 ≤ x.dv) = false := decide_eq_false (by omega)
  have q_r1 : decide (x.rq < 1) = false := decide_eq_false (by omega)
  have q_r2 : decide (1099511627776 < x.rq) = false := decide_eq_false (by omega)
  have hHT : R = false := by rw [HR.out]; exact decide_eq_false (fun k => z ((cok_2 hk).1 k).2.2.2.2.2)
  have HT := hid hHT
  clear hHT
  clear hk
  go_enter Try.func15, Try.ntmps15
  go_wp2_with (first
    | (refine wpList_load_mid rfl 32 (.tmp 1) rfl w.heap.size 0 rfl xc _ RG0 huc rfl (by rw [HLC.out]; exact info_cm) ?_
       simp only [pq4])
    | (refine wpList_store_asC rfl 32 (.tmp 3) (.tmp 4) rfl (w.heap.size + 1) 0 xc.toArray rfl rfl (by simpa [HLC.out] using TH1) (by simpa [HLC.out] using info_cm) HON.out W1 HW1.out ?_)
    | (refine wpList_store_i rfl 3 (.tmp 34) (.const (.int .i64 0)) rfl (w.heap.size + 1) 30 .i64 0 rfl rfl _ info_i C30.out F30.out W2 HW2.out ?_)
    | (refine wpList_store_i rfl 3 (.tmp 35) (.const (.int .i64 0)) rfl (w.heap.size + 1) 31 .i64 0 rfl rfl _ info_i C31.out F31.out W3 HW3.out ?_)
    | (refine wpList_store_i rfl 3 (.tmp 58) (.const (.int .i64 0)) rfl (w.heap.size + 1) 32 .i64 0 rfl rfl _ info_i C32.out F32.out W4 HW4.out ?_)
    | (refine wpList_store_i rfl 3 (.tmp 59) (.const (.int .i64 0)) rfl (w.heap.size + 1) 33 .i64 0 rfl rfl _ info_i C33.out F33.out W5 HW5.out ?_)
    | (refine wpList_store_asC rfl 27 (.tmp 61) (.tmp 60) rfl (w.heap.size + 1) 35 (pcells 0 0 zeros).toArray rfl rfl THP info_patch HONP.out W6 HW6.out ?_)
    | (refine wpList_load_mid rfl 32 (.tmp 3) rfl (w.heap.size + 1) 0 rfl yc _ RGZ huc rfl (by rw [HLZ.out]; exact info_cm) ?_; simp only [pq4])
    | fail)
  refine HZZ.out.mono ?_
  rintro e wz ⟨rfl, hbz⟩
  have HSZ := hid (HS6.out.later hbz)
  have kz_32 := HSZ.out.a.cell HPX.out.2.2.2.1
  have kz_33 := HSZ.out.a.cell HPX.out.2.2.2.2.1
  have HBE := hid HSZ.out.be
  clear hbz
  go_wp2_with fail
  go_ret
  exact ⟨by first | rfl | (rw [HT.out]; rfl), HBE.out⟩
theorem rccheck_2b (x : Cm) (w : World) (h : okCm w x) (hk : x.kd = 2) (hg : 0 ≤ x.dv) (hl : x.dv < 6) (r1 : 1 ≤ x.rq) (r2 : x.rq ≤ 1099511627776) (z : cz (y2 x)) (i1 : ¬ (1 ≤ x.id)) :
    Calls Try.prog 15 #[.agg (cmc x).toArray] w fun e w' => e = .returned (.bool (decide (cok x))) ∧ Below w.heap.size w w' := by
  have hue := Try.underlying29
  have hup := Try.underlying27
  have huc := Try.underlying32
  obtain ⟨hs1, hth⟩ := CkSt.new w x h.e8 h.p8
  have B0 := Blk.new w (cmc x) 32
  have RG0 := B0.range 0 (cmc x) (by rw [List.drop_zero, List.take_length])
  have honc := all_oneCell_toArray (cmc_one x)
  have HLC := hid (cmc_len h.e8 h.p8)
  have HPX := hid (cm_at h.e8 h.p8)
  obtain ⟨xc, hxc⟩ : ∃ c, c = cmc x := ⟨_, rfl⟩
  obtain ⟨W1, hW1⟩ : ∃ W1, W1 = ((w.alloc (.cells (cmc x).toArray 32)).alloc (.cells zA63 32)).setCells (w.heap.size + 1) 0 (cmc x) := ⟨_, rfl⟩
  rw [← hW1] at hs1
  rw [← hxc] at hW1 RG0 honc HLC hth ⊢
  have HS1 := hid hs1
  have HW1 := hid hW1
  have HON := hid honc
  have TH1 := hth
  obtain ⟨R, hR⟩ : ∃ R, R = decide (cok x) := ⟨_, rfl⟩
  rw [← hR]
  have HR := hid hR
  have e1 : (x.kd == 1) = false := by rw [hk]; rfl
  have e5 : (x.kd == 5) = false := by rw [hk]; rfl
  have e2 : (x.kd == 2) = true := by rw [hk]; rfl
  have e3 : (x.kd == 3) = false := by rw [hk]; rfl
  have e4 : (x.kd == 4) = false := by rw [hk]; rfl
  have ka_kd := HS1.out.a.cell HPX.out.1
  clear hs1 hth hxc hW1 honc hR B0
  have S2 := HS1.out.set 30 (.int .i64 0) (cm_sets HS1.out.y1 HS1.out.y2 0 0#32).2.1 HS1.out.y1 HS1.out.y2
  have S2 : CkSt w x _ (W1.setCell ⟨w.heap.size + 1, 30, none⟩ (.int .i64 0)) := S2
  obtain ⟨W2, hW2⟩ : ∃ W, W = W1.setCell ⟨w.heap.size + 1, 30, none⟩ (.int .i64 0) := ⟨_, rfl⟩
  rw [← hW2] at S2
  have C30 := hid (HS1.out.b.cell (cm_at HS1.out.y1 HS1.out.y2).2.1)
  have F30 := hid (HS1.out.b.frozen 30)
  have HW2 := hid hW2
  have S2 := hid S2
  clear hW2
  have S3 := S2.out.set 31 (.int .i64 0) (cm_sets S2.out.y1 S2.out.y2 0 0#32).2.2.1 S2.out.y1 S2.out.y2
  have S3 : CkSt w x _ (W2.setCell ⟨w.heap.size + 1, 31, none⟩ (.int .i64 0)) := S3
  obtain ⟨W3, hW3⟩ : ∃ W, W = W2.setCell ⟨w.heap.size + 1, 31, none⟩ (.int .i64 0) := ⟨_, rfl⟩
  rw [← hW3] at S3
  have C31 := hid (S2.out.b.cell (cm_at S2.out.y1 S2.out.y2).2.2.1)
  have F31 := hid (S2.out.b.frozen 31)
  have HW3 := hid hW3
  have S3 := hid S3
  clear hW3
  have kc_kd := S3.out.a.cell HPX.out.1
  have kc_30 := S3.out.a.cell HPX.out.2.1
  have kc_31 := S3.out.a.cell HPX.out.2.2.1
  have S4 := S3.out.set 32 (.int .i64 0) (cm_sets S3.out.y1 S3.out.y2 0 0#32).2.2.2.1 S3.out.y1 S3.out.y2
  have S4 : CkSt w x _ (W3.setCell ⟨w.heap.size + 1, 32, none⟩ (.int .i64 0)) := S4
  obtain ⟨W4, hW4⟩ : ∃ W, W = W3.setCell ⟨w.heap.size + 1, 32, none⟩ (.int .i64 0) := ⟨_, rfl⟩
  rw [← hW4] at S4
  have C32 := hid (S3.out.b.cell (cm_at S3.out.y1 S3.out.y2).2.2.2.1)
  have F32 := hid (S3.out.b.frozen 32)
  have HW4 := hid hW4
  have S4 := hid S4
  clear hW4
  have S5 := S4.out.set 33 (.int .i64 0) (cm_sets S4.out.y1 S4.out.y2 0 0#32).2.2.2.2.1 S4.out.y1 S4.out.y2
  have S5 : CkSt w x _ (W4.setCell ⟨w.heap.size + 1, 33, none⟩ (.int .i64 0)) := S5
  obtain ⟨W5, hW5⟩ : ∃ W, W = W4.setCell ⟨w.heap.size + 1, 33, none⟩ (.int .i64 0) := ⟨_, rfl⟩
  rw [← hW5] at S5
  have C33 := hid (S4.out.b.cell (cm_at S4.out.y1 S4.out.y2).2.2.2.2.1)
  have F33 := hid (S4.out.b.frozen 33)
  have HW5 := hid hW5
  have S5 := hid S5
  clear hW5
  have hs6 := S5.out.setP
  have THP := S5.out.b.there 35 26 (by rw [cmc_len S5.out.y1 S5.out.y2]; omega)
  obtain ⟨W6, hW6⟩ : ∃ W, W = W5.setCells (w.heap.size + 1) 35 (pcells 0 0 zeros) := ⟨_, rfl⟩
  rw [← hW6] at hs6
  have hs6 : CkSt w x (q2 x) W6 := hs6
  have HS6 := hid hs6
  have HW6 := hid hW6
  have HONP := hid (all_oneCell_toArray (pcells_one 0 0 zeros))
  clear hs6 hW6
  have hzz := rczero_any (q2 x) W6 ⟨HS6.out.y1, HS6.out.y2, h.len, h.cap, h.max, ((h.see.below HS6.out.be).more HS6.out.be.size)⟩
  have RGZ := HS6.out.b.range 0 (cmc (q2 x)) (by rw [List.drop_zero, List.take_length])
  have HLZ := hid (cmc_len HS6.out.y1 HS6.out.y2)
  rw [decide_eq_true (show cz (q2 x) from z)] at hzz
  obtain ⟨yc, hyc⟩ : ∃ c, c = cmc (q2 x) := ⟨_, rfl⟩
  rw [← hyc] at hzz RGZ HLZ
  have HZZ := hid hzz
  clear hzz hyc
  have q_hg : decide (x.dv < 0) = false := decide_eq_false (by omega)
  have q_hl : decide (6 ≤ x.dv) = false := decide_eq_false (by omega)
  have q_r1 : decide (x.rq < 1) = false := decide_eq_false (by omega)
  have q_r2 : decide (1099511627776 < x.rq) = false := decide_eq_false (by omega)
  have q_i1 : decide (1 ≤ x.id) = false := decide_eq_false (by omega)
  have hHT : R = false := by rw [HR.out]; exact decide_eq_false (fun k => i1 ((cok_2 hk).1 k).2.2.1.1)
  have HT := hid hHT
  clear hHT
  clear hk
  go_enter Try.func15, Try.ntmps15
  go_wp2_with (first
    | (refine wpList_load_mid rfl 32 (.tmp 1) rfl w.heap.size 0 rfl xc _ RG0 huc rfl (by rw [HLC.out]; exact info_cm) ?_
       simp only [pq4])
    | (refine wpList_store_asC rfl 32 (.tmp 3) (.tmp 4) rfl (w.heap.size + 1) 0 xc.toArray rfl rfl (by simpa [HLC.out] using TH1) (by simpa [HLC.out] using info_cm) HON.out W1 HW1.out ?_)
    | (refine wpList_store_i rfl 3 (.tmp 34) (.const (.int .i64 0)) rfl (w.heap.size + 1) 30 .i64 0 rfl rfl _ info_i C30.out F30.out W2 HW2.out ?_)
    | (refine wpList_store_i rfl 3 (.tmp 35) (.const (.int .i64 0)) rfl (w.heap.size + 1) 31 .i64 0 rfl rfl _ info_i C31.out F31.out W3 HW3.out ?_)
    | (refine wpList_store_i rfl 3 (.tmp 58) (.const (.int .i64 0)) rfl (w.heap.size + 1) 32 .i64 0 rfl rfl _ info_i C32.out F32.out W4 HW4.out ?_)
    | (refine wpList_store_i rfl 3 (.tmp 59) (.const (.int .i64 0)) rfl (w.heap.size + 1) 33 .i64 0 rfl rfl _ info_i C33.out F33.out W5 HW5.out ?_)
    | (refine wpList_store_asC rfl 27 (.tmp 61) (.tmp 60) rfl (w.heap.size + 1) 35 (pcells 0 0 zeros).toArray rfl rfl THP info_patch HONP.out W6 HW6.out ?_)
    | (refine wpList_load_mid rfl 32 (.tmp 3) rfl (w.heap.size + 1) 0 rfl yc _ RGZ huc rfl (by rw [HLZ.out]; exact info_cm) ?_; simp only [pq4])
    | fail)
  refine HZZ.out.mono ?_
  rintro e wz ⟨rfl, hbz⟩
  have HSZ := hid (HS6.out.later hbz)
  have kz_32 := HSZ.out.a.cell HPX.out.2.2.2.1
  have kz_33 := HSZ.out.a.cell HPX.out.2.2.2.2.1
  have HBE := hid HSZ.out.be
  clear hbz
  go_wp2_with fail
  go_ret
  exact ⟨by first | rfl | (rw [HT.out]; rfl), HBE.out⟩
theorem rccheck_2c (x : Cm) (w : World) (h : okCm w x) (hk : x.kd = 2) (hg : 0 ≤ x.dv) (hl : x.dv < 6) (r1 : 1 ≤ x.rq) (r2 : x.rq ≤ 1099511627776) (z : cz (y2 x)) (i1 : 1 ≤ x.id) (hx : ¬ (x.id < 1073741824)) :
    Calls Try.prog 15 #[.agg (cmc x).toArray] w fun e w' => e = .returned (.bool (decide (cok x))) ∧ Below w.heap.size w w' := by
  have hue := Try.underlying29
  have hup := Try.underlying27
  have huc := Try.underlying32
  obtain ⟨hs1, hth⟩ := CkSt.new w x h.e8 h.p8
  have B0 := Blk.new w (cmc x) 32
  have RG0 := B0.range 0 (cmc x) (by rw [List.drop_zero, List.take_length])
  have honc := all_oneCell_toArray (cmc_one x)
  have HLC := hid (cmc_len h.e8 h.p8)
  have HPX := hid (cm_at h.e8 h.p8)
  obtain ⟨xc, hxc⟩ : ∃ c, c = cmc x := ⟨_, rfl⟩
  obtain ⟨W1, hW1⟩ : ∃ W1, W1 = ((w.alloc (.cells (cmc x).toArray 32)).alloc (.cells zA63 32)).setCells (w.heap.size + 1) 0 (cmc x) := ⟨_, rfl⟩
  rw [← hW1] at hs1
  rw [← hxc] at hW1 RG0 honc HLC hth ⊢
  have HS1 := hid hs1
  have HW1 := hid hW1
  have HON := hid honc
  have TH1 := hth
  obtain ⟨R, hR⟩ : ∃ R, R = decide (cok x) := ⟨_, rfl⟩
  rw [← hR]
  have HR := hid hR
  have e1 : (x.kd == 1) = false := by rw [hk]; rfl
  have e5 : (x.kd == 5) = false := by rw [hk]; rfl
  have e2 : (x.kd == 2) = true := by rw [hk]; rfl
  have e3 : (x.kd == 3) = false := by rw [hk]; rfl
  have e4 : (x.kd == 4) = false := by rw [hk]; rfl
  have ka_kd := HS1.out.a.cell HPX.out.1
  clear hs1 hth hxc hW1 honc hR B0
  have S2 := HS1.out.set 30 (.int .i64 0) (cm_sets HS1.out.y1 HS1.out.y2 0 0#32).2.1 HS1.out.y1 HS1.out.y2
  have S2 : CkSt w x _ (W1.setCell ⟨w.heap.size + 1, 30, none⟩ (.int .i64 0)) := S2
  obtain ⟨W2, hW2⟩ : ∃ W, W = W1.setCell ⟨w.heap.size + 1, 30, none⟩ (.int .i64 0) := ⟨_, rfl⟩
  rw [← hW2] at S2
  have C30 := hid (HS1.out.b.cell (cm_at HS1.out.y1 HS1.out.y2).2.1)
  have F30 := hid (HS1.out.b.frozen 30)
  have HW2 := hid hW2
  have S2 := hid S2
  clear hW2
  have S3 := S2.out.set 31 (.int .i64 0) (cm_sets S2.out.y1 S2.out.y2 0 0#32).2.2.1 S2.out.y1 S2.out.y2
  have S3 : CkSt w x _ (W2.setCell ⟨w.heap.size + 1, 31, none⟩ (.int .i64 0)) := S3
  obtain ⟨W3, hW3⟩ : ∃ W, W = W2.setCell ⟨w.heap.size + 1, 31, none⟩ (.int .i64 0) := ⟨_, rfl⟩
  rw [← hW3] at S3
  have C31 := hid (S2.out.b.cell (cm_at S2.out.y1 S2.out.y2).2.2.1)
  have F31 := hid (S2.out.b.frozen 31)
  have HW3 := hid hW3
  have S3 := hid S3
  clear hW3
  have kc_kd := S3.out.a.cell HPX.out.1
  have kc_30 := S3.out.a.cell HPX.out.2.1
  have kc_31 := S3.out.a.cell HPX.out.2.2.1
  have S4 := S3.out.set 32 (.int .i64 0) (cm_sets S3.out.y1 S3.out.y2 0 0#32).2.2.2.1 S3.out.y1 S3.out.y2
  have S4 : CkSt w x _ (W3.setCell ⟨w.heap.size + 1, 32, none⟩ (.int .i64 0)) := S4
  obtain ⟨W4, hW4⟩ : ∃ W, W = W3.setCell ⟨w.heap.size + 1, 32, none⟩ (.int .i64 0) := ⟨_, rfl⟩
  rw [← hW4] at S4
  have C32 := hid (S3.out.b.cell (cm_at S3.out.y1 S3.out.y2).2.2.2.1)
  have F32 := hid (S3.out.b.frozen 32)
  have HW4 := hid hW4
  have S4 := hid S4
  clear hW4
  have S5 := S4.out.set 33 (.int .i64 0) (cm_sets S4.out.y1 S4.out.y2 0 0#32).2.2.2.2.1 S4.out.y1 S4.out.y2
  have S5 : CkSt w x _ (W4.setCell ⟨w.heap.size + 1, 33, none⟩ (.int .i64 0)) := S5
  obtain ⟨W5, hW5⟩ : ∃ W, W = W4.setCell ⟨w.heap.size + 1, 33, none⟩ (.int .i64 0) := ⟨_, rfl⟩
  rw [← hW5] at S5
  have C33 := hid (S4.out.b.cell (cm_at S4.out.y1 S4.out.y2).2.2.2.2.1)
  have F33 := hid (S4.out.b.frozen 33)
  have HW5 := hid hW5
  have S5 := hid S5
  clear hW5
  have hs6 := S5.out.setP
  have THP := S5.out.b.there 35 26 (by rw [cmc_len S5.out.y1 S5.out.y2]; omega)
  obtain ⟨W6, hW6⟩ : ∃ W, W = W5.setCells (w.heap.size + 1) 35 (pcells 0 0 zeros) := ⟨_, rfl⟩
  rw [← hW6] at hs6
  have hs6 : CkSt w x (q2 x) W6 := hs6
  have HS6 := hid hs6
  have HW6 := hid hW6
  have HONP := hid (all_oneCell_toArray (pcells_one 0 0 zeros))
  clear hs6 hW6
  have hzz := rczero_any (q2 x) W6 ⟨HS6.out.y1, HS6.out.y2, h.len, h.cap, h.max, ((h.see.below HS6.out.be).more HS6.out.be.size)⟩
  have RGZ := HS6.out.b.range 0 (cmc (q2 x)) (by rw [List.drop_zero, List.take_length])
  have HLZ := hid (cmc_len HS6.out.y1 HS6.out.y2)
  rw [decide_eq_true (show cz (q2 x) from z)] at hzz
  obtain ⟨yc, hyc⟩ : ∃ c, c = cmc (q2 x) := ⟨_, rfl⟩
  rw [← hyc] at hzz RGZ HLZ
  have HZZ := hid hzz
  clear hzz hyc
  have q_hg : decide (x.dv < 0) = false := decide_eq_false (by omega)
  have q_hl : decide (6 ≤ x.dv) = false := decide_eq_false (by omega)
  have q_r1 : decide (x.rq < 1) = false := decide_eq_false (by omega)
  have q_r2 : decide (1099511627776 < x.rq) = false := decide_eq_false (by omega)
  have q_i1 : decide (1 ≤ x.id) = true := decide_eq_true (by omega)
  have q_hx : decide (x.id < 1073741824) = false := decide_eq_false (by omega)
  have hHT : R = false := by rw [HR.out]; exact decide_eq_false (fun k => hx ((cok_2 hk).1 k).2.2.1.2)
  have HT := hid hHT
  clear hHT
  clear hk
  go_enter Try.func15, Try.ntmps15
  go_wp2_with (first
    | (refine wpList_load_mid rfl 32 (.tmp 1) rfl w.heap.size 0 rfl xc _ RG0 huc rfl (by rw [HLC.out]; exact info_cm) ?_
       simp only [pq4])
    | (refine wpList_store_asC rfl 32 (.tmp 3) (.tmp 4) rfl (w.heap.size + 1) 0 xc.toArray rfl rfl (by simpa [HLC.out] using TH1) (by simpa [HLC.out] using info_cm) HON.out W1 HW1.out ?_)
    | (refine wpList_store_i rfl 3 (.tmp 34) (.const (.int .i64 0)) rfl (w.heap.size + 1) 30 .i64 0 rfl rfl _ info_i C30.out F30.out W2 HW2.out ?_)
    | (refine wpList_store_i rfl 3 (.tmp 35) (.const (.int .i64 0)) rfl (w.heap.size + 1) 31 .i64 0 rfl rfl _ info_i C31.out F31.out W3 HW3.out ?_)
    | (refine wpList_store_i rfl 3 (.tmp 58) (.const (.int .i64 0)) rfl (w.heap.size + 1) 32 .i64 0 rfl rfl _ info_i C32.out F32.out W4 HW4.out ?_)
    | (refine wpList_store_i rfl 3 (.tmp 59) (.const (.int .i64 0)) rfl (w.heap.size + 1) 33 .i64 0 rfl rfl _ info_i C33.out F33.out W5 HW5.out ?_)
    | (refine wpList_store_asC rfl 27 (.tmp 61) (.tmp 60) rfl (w.heap.size + 1) 35 (pcells 0 0 zeros).toArray rfl rfl THP info_patch HONP.out W6 HW6.out ?_)
    | (refine wpList_load_mid rfl 32 (.tmp 3) rfl (w.heap.size + 1) 0 rfl yc _ RGZ huc rfl (by rw [HLZ.out]; exact info_cm) ?_; simp only [pq4])
    | fail)
  refine HZZ.out.mono ?_
  rintro e wz ⟨rfl, hbz⟩
  have HSZ := hid (HS6.out.later hbz)
  have kz_32 := HSZ.out.a.cell HPX.out.2.2.2.1
  have kz_33 := HSZ.out.a.cell HPX.out.2.2.2.2.1
  have HBE := hid HSZ.out.be
  clear hbz
  go_wp2_with fail
  go_ret
  exact ⟨by first | rfl | (rw [HT.out]; rfl), HBE.out⟩
theorem rccheck_2d (x : Cm) (w : World) (h : okCm w x) (hk : x.kd = 2) (hg : 0 ≤ x.dv) (hl : x.dv < 6) (r1 : 1 ≤ x.rq) (r2 : x.rq ≤ 1099511627776) (z : cz (y2 x)) (i1 : 1 ≤ x.id) (hx : x.id < 1073741824) (b1 : ¬ (1 ≤ x.bs)) :
    Calls Try.prog 15 #[.agg (cmc x).toArray] w fun e w' => e = .returned (.bool (decide (cok x))) ∧ Below w.heap.size w w' := by
  have hue := Try.underlying29
  have hup := Try.underlying27
  have huc := Try.underlying32
  obtain ⟨hs1, hth⟩ := CkSt.new w x h.e8 h.p8
  have B0 := Blk.new w (cmc x) 32
  have RG0 := B0.range 0 (cmc x) (by rw [List.drop_zero, List.take_length])
  have honc := all_oneCell_toArray (cmc_one x)
  have HLC := hid (cmc_len h.e8 h.p8)
  have HPX := hid (cm_at h.e8 h.p8)
  obtain ⟨xc, hxc⟩ : ∃ c, c = cmc x := ⟨_, rfl⟩
  obtain ⟨W1, hW1⟩ : ∃ W1, W1 = ((w.alloc (.cells (cmc x).toArray 32)).alloc (.cells zA63 32)).setCells (w.heap.size + 1) 0 (cmc x) := ⟨_, rfl⟩
  rw [← hW1] at hs1
  rw [← hxc] at hW1 RG0 honc HLC hth ⊢
  have HS1 := hid hs1
  have HW1 := hid hW1
  have HON := hid honc
  have TH1 := hth
  obtain ⟨R, hR⟩ : ∃ R, R = decide (cok x) := ⟨_, rfl⟩
  rw [← hR]
  have HR := hid hR
  have e1 : (x.kd == 1) = false := by rw [hk]; rfl
  have e5 : (x.kd == 5) = false := by rw [hk]; rfl
  have e2 : (x.kd == 2) = true := by rw [hk]; rfl
  have e3 : (x.kd == 3) = false := by rw [hk]; rfl
  have e4 : (x.kd == 4) = false := by rw [hk]; rfl
  have ka_kd := HS1.out.a.cell HPX.out.1
  clear hs1 hth hxc hW1 honc hR B0
  have S2 := HS1.out.set 30 (.int .i64 0) (cm_sets HS1.out.y1 HS1.out.y2 0 0#32).2.1 HS1.out.y1 HS1.out.y2
  have S2 : CkSt w x _ (W1.setCell ⟨w.heap.size + 1, 30, none⟩ (.int .i64 0)) := S2
  obtain ⟨W2, hW2⟩ : ∃ W, W = W1.setCell ⟨w.heap.size + 1, 30, none⟩ (.int .i64 0) := ⟨_, rfl⟩
  rw [← hW2] at S2
  have C30 := hid (HS1.out.b.cell (cm_at HS1.out.y1 HS1.out.y2).2.1)
  have F30 := hid (HS1.out.b.frozen 30)
  have HW2 := hid hW2
  have S2 := hid S2
  clear hW2
  have S3 := S2.out.set 31 (.int .i64 0) (cm_sets S2.out.y1 S2.out.y2 0 0#32).2.2.1 S2.out.y1 S2.out.y2
  have S3 : CkSt w x _ (W2.setCell ⟨w.heap.size + 1, 31, none⟩ (.int .i64 0)) := S3
  obtain ⟨W3, hW3⟩ : ∃ W, W = W2.setCell ⟨w.heap.size + 1, 31, none⟩ (.int .i64 0) := ⟨_, rfl⟩
  rw [← hW3] at S3
  have C31 := hid (S2.out.b.cell (cm_at S2.out.y1 S2.out.y2).2.2.1)
  have F31 := hid (S2.out.b.frozen 31)
  have HW3 := hid hW3
  have S3 := hid S3
  clear hW3
  have kc_kd := S3.out.a.cell HPX.out.1
  have kc_30 := S3.out.a.cell HPX.out.2.1
  have kc_31 := S3.out.a.cell HPX.out.2.2.1
  have S4 := S3.out.set 32 (.int .i64 0) (cm_sets S3.out.y1 S3.out.y2 0 0#32).2.2.2.1 S3.out.y1 S3.out.y2
  have S4 : CkSt w x _ (W3.setCell ⟨w.heap.size + 1, 32, none⟩ (.int .i64 0)) := S4
  obtain ⟨W4, hW4⟩ : ∃ W, W = W3.setCell ⟨w.heap.size + 1, 32, none⟩ (.int .i64 0) := ⟨_, rfl⟩
  rw [← hW4] at S4
  have C32 := hid (S3.out.b.cell (cm_at S3.out.y1 S3.out.y2).2.2.2.1)
  have F32 := hid (S3.out.b.frozen 32)
  have HW4 := hid hW4
  have S4 := hid S4
  clear hW4
  have S5 := S4.out.set 33 (.int .i64 0) (cm_sets S4.out.y1 S4.out.y2 0 0#32).2.2.2.2.1 S4.out.y1 S4.out.y2
  have S5 : CkSt w x _ (W4.setCell ⟨w.heap.size + 1, 33, none⟩ (.int .i64 0)) := S5
  obtain ⟨W5, hW5⟩ : ∃ W, W = W4.setCell ⟨w.heap.size + 1, 33, none⟩ (.int .i64 0) := ⟨_, rfl⟩
  rw [← hW5] at S5
  have C33 := hid (S4.out.b.cell (cm_at S4.out.y1 S4.out.y2).2.2.2.2.1)
  have F33 := hid (S4.out.b.frozen 33)
  have HW5 := hid hW5
  have S5 := hid S5
  clear hW5
  have hs6 := S5.out.setP
  have THP := S5.out.b.there 35 26 (by rw [cmc_len S5.out.y1 S5.out.y2]; omega)
  obtain ⟨W6, hW6⟩ : ∃ W, W = W5.setCells (w.heap.size + 1) 35 (pcells 0 0 zeros) := ⟨_, rfl⟩
  rw [← hW6] at hs6
  have hs6 : CkSt w x (q2 x) W6 := hs6
  have HS6 := hid hs6
  have HW6 := hid hW6
  have HONP := hid (all_oneCell_toArray (pcells_one 0 0 zeros))
  clear hs6 hW6
  have hzz := rczero_any (q2 x) W6 ⟨HS6.out.y1, HS6.out.y2, h.len, h.cap, h.max, ((h.see.below HS6.out.be).more HS6.out.be.size)⟩
  have RGZ := HS6.out.b.range 0 (cmc (q2 x)) (by rw [List.drop_zero, List.take_length])
  have HLZ := hid (cmc_len HS6.out.y1 HS6.out.y2)
  rw [decide_eq_true (show cz (q2 x) from z)] at hzz
  obtain ⟨yc, hyc⟩ : ∃ c, c = cmc (q2 x) := ⟨_, rfl⟩
  rw [← hyc] at hzz RGZ HLZ
  have HZZ := hid hzz
  clear hzz hyc
  have q_hg : decide (x.dv < 0) = false := decide_eq_false (by omega)
  have q_hl : decide (6 ≤ x.dv) = false := decide_eq_false (by omega)
  have q_r1 : decide (x.rq < 1) = false := decide_eq_false (by omega)
  have q_r2 : decide (1099511627776 < x.rq) = false := decide_eq_false (by omega)
  have q_i1 : decide (1 ≤ x.id) = true := decide_eq_true (by omega)
  have q_hx : decide (x.id < 1073741824) = true := decide_eq_true (by omega)
  have q_b1 : decide (1 ≤ x.bs) = false := decide_eq_false (by omega)
  have hHT : R = false := by rw [HR.out]; exact decide_eq_false (fun k => b1 ((cok_2 hk).1 k).2.2.2.1.1)
  have HT := hid hHT
  clear hHT
  clear hk
  go_enter Try.func15, Try.ntmps15
  go_wp2_with (first
    | (refine wpList_load_mid rfl 32 (.tmp 1) rfl w.heap.size 0 rfl xc _ RG0 huc rfl (by rw [HLC.out]; exact info_cm) ?_
       simp only [pq4])
    | (refine wpList_store_asC rfl 32 (.tmp 3) (.tmp 4) rfl (w.heap.size + 1) 0 xc.toArray rfl rfl (by simpa [HLC.out] using TH1) (by simpa [HLC.out] using info_cm) HON.out W1 HW1.out ?_)
    | (refine wpList_store_i rfl 3 (.tmp 34) (.const (.int .i64 0)) rfl (w.heap.size + 1) 30 .i64 0 rfl rfl _ info_i C30.out F30.out W2 HW2.out ?_)
    | (refine wpList_store_i rfl 3 (.tmp 35) (.const (.int .i64 0)) rfl (w.heap.size + 1) 31 .i64 0 rfl rfl _ info_i C31.out F31.out W3 HW3.out ?_)
    | (refine wpList_store_i rfl 3 (.tmp 58) (.const (.int .i64 0)) rfl (w.heap.size + 1) 32 .i64 0 rfl rfl _ info_i C32.out F32.out W4 HW4.out ?_)
    | (refine wpList_store_i rfl 3 (.tmp 59) (.const (.int .i64 0)) rfl (w.heap.size + 1) 33 .i64 0 rfl rfl _ info_i C33.out F33.out W5 HW5.out ?_)
    | (refine wpList_store_asC rfl 27 (.tmp 61) (.tmp 60) rfl (w.heap.size + 1) 35 (pcells 0 0 zeros).toArray rfl rfl THP info_patch HONP.out W6 HW6.out ?_)
    | (refine wpList_load_mid rfl 32 (.tmp 3) rfl (w.heap.size + 1) 0 rfl yc _ RGZ huc rfl (by rw [HLZ.out]; exact info_cm) ?_; simp only [pq4])
    | fail)
  refine HZZ.out.mono ?_
  rintro e wz ⟨rfl, hbz⟩
  have HSZ := hid (HS6.out.later hbz)
  have kz_32 := HSZ.out.a.cell HPX.out.2.2.2.1
  have kz_33 := HSZ.out.a.cell HPX.out.2.2.2.2.1
  have HBE := hid HSZ.out.be
  clear hbz
  go_wp2_with fail
  go_ret
  exact ⟨by first | rfl | (rw [HT.out]; rfl), HBE.out⟩
theorem rccheck_2e (x : Cm) (w : World) (h : okCm w x) (hk : x.kd = 2) (hg : 0 ≤ x.dv) (hl : x.dv < 6) (r1 : 1 ≤ x.rq) (r2 : x.rq ≤ 1099511627776) (z : cz (y2 x)) (i1 : 1 ≤ x.id) (hx : x.id < 1073741824) (b1 : 1 ≤ x.bs) (b2 : ¬ (x.bs ≤ 1099511627776)) :
    Calls Try.prog 15 #[.agg (cmc x).toArray] w fun e w' => e = .returned (.bool (decide (cok x))) ∧ Below w.heap.size w w' := by
  have hue := Try.underlying29
  have hup := Try.underlying27
  have huc := Try.underlying32
  obtain ⟨hs1, hth⟩ := CkSt.new w x h.e8 h.p8
  have B0 := Blk.new w (cmc x) 32
  have RG0 := B0.range 0 (cmc x) (by rw [List.drop_zero, List.take_length])
  have honc := all_oneCell_toArray (cmc_one x)
  have HLC := hid (cmc_len h.e8 h.p8)
  have HPX := hid (cm_at h.e8 h.p8)
  obtain ⟨xc, hxc⟩ : ∃ c, c = cmc x := ⟨_, rfl⟩
  obtain ⟨W1, hW1⟩ : ∃ W1, W1 = ((w.alloc (.cells (cmc x).toArray 32)).alloc (.cells zA63 32)).setCells (w.heap.size + 1) 0 (cmc x) := ⟨_, rfl⟩
  rw [← hW1] at hs1
  rw [← hxc] at hW1 RG0 honc HLC hth ⊢
  have HS1 := hid hs1
  have HW1 := hid hW1
  have HON := hid honc
  have TH1 := hth
  obtain ⟨R, hR⟩ : ∃ R, R = decide (cok x) := ⟨_, rfl⟩
  rw [← hR]
  have HR := hid hR
  have e1 : (x.kd == 1) = false := by rw [hk]; rfl
  have e5 : (x.kd == 5) = false := by rw [hk]; rfl
  have e2 : (x.kd == 2) = true := by rw [hk]; rfl
  have e3 : (x.kd == 3) = false := by rw [hk]; rfl
  have e4 : (x.kd == 4) = false := by rw [hk]; rfl
  have ka_kd := HS1.out.a.cell HPX.out.1
  clear hs1 hth hxc hW1 honc hR B0
  have S2 := HS1.out.set 30 (.int .i64 0) (cm_sets HS1.out.y1 HS1.out.y2 0 0#32).2.1 HS1.out.y1 HS1.out.y2
  have S2 : CkSt w x _ (W1.setCell ⟨w.heap.size + 1, 30, none⟩ (.int .i64 0)) := S2
  obtain ⟨W2, hW2⟩ : ∃ W, W = W1.setCell ⟨w.heap.size + 1, 30, none⟩ (.int .i64 0) := ⟨_, rfl⟩
  rw [← hW2] at S2
  have C30 := hid (HS1.out.b.cell (cm_at HS1.out.y1 HS1.out.y2).2.1)
  have F30 := hid (HS1.out.b.frozen 30)
  have HW2 := hid hW2
  have S2 := hid S2
  clear hW2
  have S3 := S2.out.set 31 (.int .i64 0) (cm_sets S2.out.y1 S2.out.y2 0 0#32).2.2.1 S2.out.y1 S2.out.y2
  have S3 : CkSt w x _ (W2.setCell ⟨w.heap.size + 1, 31, none⟩ (.int .i64 0)) := S3
  obtain ⟨W3, hW3⟩ : ∃ W, W = W2.setCell ⟨w.heap.size + 1, 31, none⟩ (.int .i64 0) := ⟨_, rfl⟩
  rw [← hW3] at S3
  have C31 := hid (S2.out.b.cell (cm_at S2.out.y1 S2.out.y2).2.2.1)
  have F31 := hid (S2.out.b.frozen 31)
  have HW3 := hid hW3
  have S3 := hid S3
  clear hW3
  have kc_kd := S3.out.a.cell HPX.out.1
  have kc_30 := S3.out.a.cell HPX.out.2.1
  have kc_31 := S3.out.a.cell HPX.out.2.2.1
  have S4 := S3.out.set 32 (.int .i64 0) (cm_sets S3.out.y1 S3.out.y2 0 0#32).2.2.2.1 S3.out.y1 S3.out.y2
  have S4 : CkSt w x _ (W3.setCell ⟨w.heap.size + 1, 32, none⟩ (.int .i64 0)) := S4
  obtain ⟨W4, hW4⟩ : ∃ W, W = W3.setCell ⟨w.heap.size + 1, 32, none⟩ (.int .i64 0) := ⟨_, rfl⟩
  rw [← hW4] at S4
  have C32 := hid (S3.out.b.cell (cm_at S3.out.y1 S3.out.y2).2.2.2.1)
  have F32 := hid (S3.out.b.frozen 32)
  have HW4 := hid hW4
  have S4 := hid S4
  clear hW4
  have S5 := S4.out.set 33 (.int .i64 0) (cm_sets S4.out.y1 S4.out.y2 0 0#32).2.2.2.2.1 S4.out.y1 S4.out.y2
  have S5 : CkSt w x _ (W4.setCell ⟨w.heap.size + 1, 33, none⟩ (.int .i64 0)) := S5
  obtain ⟨W5, hW5⟩ : ∃ W, W = W4.setCell ⟨w.heap.size + 1, 33, none⟩ (.int .i64 0) := ⟨_, rfl⟩
  rw [← hW5] at S5
  have C33 := hid (S4.out.b.cell (cm_at S4.out.y1 S4.out.y2).2.2.2.2.1)
  have F33 := hid (S4.out.b.frozen 33)
  have HW5 := hid hW5
  have S5 := hid S5
  clear hW5
  have hs6 := S5.out.setP
  have THP := S5.out.b.there 35 26 (by rw [cmc_len S5.out.y1 S5.out.y2]; omega)
  obtain ⟨W6, hW6⟩ : ∃ W, W = W5.setCells (w.heap.size + 1) 35 (pcells 0 0 zeros) := ⟨_, rfl⟩
  rw [← hW6] at hs6
  have hs6 : CkSt w x (q2 x) W6 := hs6
  have HS6 := hid hs6
  have HW6 := hid hW6
  have HONP := hid (all_oneCell_toArray (pcells_one 0 0 zeros))
  clear hs6 hW6
  have hzz := rczero_any (q2 x) W6 ⟨HS6.out.y1, HS6.out.y2, h.len, h.cap, h.max, ((h.see.below HS6.out.be).more HS6.out.be.size)⟩
  have RGZ := HS6.out.b.range 0 (cmc (q2 x)) (by rw [List.drop_zero, List.take_length])
  have HLZ := hid (cmc_len HS6.out.y1 HS6.out.y2)
  rw [decide_eq_true (show cz (q2 x) from z)] at hzz
  obtain ⟨yc, hyc⟩ : ∃ c, c = cmc (q2 x) := ⟨_, rfl⟩
  rw [← hyc] at hzz RGZ HLZ
  have HZZ := hid hzz
  clear hzz hyc
  have q_hg : decide (x.dv < 0) = false := decide_eq_false (by omega)
  have q_hl : decide (6 ≤ x.dv) = false := decide_eq_false (by omega)
  have q_r1 : decide (x.rq < 1) = false := decide_eq_false (by omega)
  have q_r2 : decide (1099511627776 < x.rq) = false := decide_eq_false (by omega)
  have q_i1 : decide (1 ≤ x.id) = true := decide_eq_true (by omega)
  have q_hx : decide (x.id < 1073741824) = true := decide_eq_true (by omega)
  have q_b1 : decide (1 ≤ x.bs) = true := decide_eq_true (by omega)
  have q_b2 : decide (x.bs ≤ 1099511627776) = false := decide_eq_false (by omega)
  have hHT : R = false := by rw [HR.out]; exact decide_eq_false (fun k => b2 ((cok_2 hk).1 k).2.2.2.1.2)
  have HT := hid hHT
  clear hHT
  clear hk
  go_enter Try.func15, Try.ntmps15
  go_wp2_with (first
    | (refine wpList_load_mid rfl 32 (.tmp 1) rfl w.heap.size 0 rfl xc _ RG0 huc rfl (by rw [HLC.out]; exact info_cm) ?_
       simp only [pq4])
    | (refine wpList_store_asC rfl 32 (.tmp 3) (.tmp 4) rfl (w.heap.size + 1) 0 xc.toArray rfl rfl (by simpa [HLC.out] using TH1) (by simpa [HLC.out] using info_cm) HON.out W1 HW1.out ?_)
    | (refine wpList_store_i rfl 3 (.tmp 34) (.const (.int .i64 0)) rfl (w.heap.size + 1) 30 .i64 0 rfl rfl _ info_i C30.out F30.out W2 HW2.out ?_)
    | (refine wpList_store_i rfl 3 (.tmp 35) (.const (.int .i64 0)) rfl (w.heap.size + 1) 31 .i64 0 rfl rfl _ info_i C31.out F31.out W3 HW3.out ?_)
    | (refine wpList_store_i rfl 3 (.tmp 58) (.const (.int .i64 0)) rfl (w.heap.size + 1) 32 .i64 0 rfl rfl _ info_i C32.out F32.out W4 HW4.out ?_)
    | (refine wpList_store_i rfl 3 (.tmp 59) (.const (.int .i64 0)) rfl (w.heap.size + 1) 33 .i64 0 rfl rfl _ info_i C33.out F33.out W5 HW5.out ?_)
    | (refine wpList_store_asC rfl 27 (.tmp 61) (.tmp 60) rfl (w.heap.size + 1) 35 (pcells 0 0 zeros).toArray rfl rfl THP info_patch HONP.out W6 HW6.out ?_)
    | (refine wpList_load_mid rfl 32 (.tmp 3) rfl (w.heap.size + 1) 0 rfl yc _ RGZ huc rfl (by rw [HLZ.out]; exact info_cm) ?_; simp only [pq4])
    | fail)
  refine HZZ.out.mono ?_
  rintro e wz ⟨rfl, hbz⟩
  have HSZ := hid (HS6.out.later hbz)
  have kz_32 := HSZ.out.a.cell HPX.out.2.2.2.1
  have kz_33 := HSZ.out.a.cell HPX.out.2.2.2.2.1
  have HBE := hid HSZ.out.be
  clear hbz
  go_wp2_with fail
  go_ret
  exact ⟨by first | rfl | (rw [HT.out]; rfl), HBE.out⟩
theorem rccheck_2f (x : Cm) (w : World) (h : okCm w x) (hk : x.kd = 2) (hg : 0 ≤ x.dv) (hl : x.dv < 6) (r1 : 1 ≤ x.rq) (r2 : x.rq ≤ 1099511627776) (z : cz (y2 x)) (i1 : 1 ≤ x.id) (hx : x.id < 1073741824) (b1 : 1 ≤ x.bs) (b2 : x.bs ≤ 1099511627776) (hp : ¬ (pchk x.pm (x.pl.toNat : Int) x.pf = 0)) :
    Calls Try.prog 15 #[.agg (cmc x).toArray] w fun e w' => e = .returned (.bool (decide (cok x))) ∧ Below w.heap.size w w' := by
  have hue := Try.underlying29
  have hup := Try.underlying27
  have huc := Try.underlying32
  obtain ⟨hs1, hth⟩ := CkSt.new w x h.e8 h.p8
  have B0 := Blk.new w (cmc x) 32
  have RG0 := B0.range 0 (cmc x) (by rw [List.drop_zero, List.take_length])
  have honc := all_oneCell_toArray (cmc_one x)
  have HLC := hid (cmc_len h.e8 h.p8)
  have HPX := hid (cm_at h.e8 h.p8)
  obtain ⟨xc, hxc⟩ : ∃ c, c = cmc x := ⟨_, rfl⟩
  obtain ⟨W1, hW1⟩ : ∃ W1, W1 = ((w.alloc (.cells (cmc x).toArray 32)).alloc (.cells zA63 32)).setCells (w.heap.size + 1) 0 (cmc x) := ⟨_, rfl⟩
  rw [← hW1] at hs1
  rw [← hxc] at hW1 RG0 honc HLC hth ⊢
  have HS1 := hid hs1
  have HW1 := hid hW1
  have HON := hid honc
  have TH1 := hth
  obtain ⟨R, hR⟩ : ∃ R, R = decide (cok x) := ⟨_, rfl⟩
  rw [← hR]
  have HR := hid hR
  have e1 : (x.kd == 1) = false := by rw [hk]; rfl
  have e5 : (x.kd == 5) = false := by rw [hk]; rfl
  have e2 : (x.kd == 2) = true := by rw [hk]; rfl
  have e3 : (x.kd == 3) = false := by rw [hk]; rfl
  have e4 : (x.kd == 4) = false := by rw [hk]; rfl
  have ka_kd := HS1.out.a.cell HPX.out.1
  clear hs1 hth hxc hW1 honc hR B0
  have S2 := HS1.out.set 30 (.int .i64 0) (cm_sets HS1.out.y1 HS1.out.y2 0 0#32).2.1 HS1.out.y1 HS1.out.y2
  have S2 : CkSt w x _ (W1.setCell ⟨w.heap.size + 1, 30, none⟩ (.int .i64 0)) := S2
  obtain ⟨W2, hW2⟩ : ∃ W, W = W1.setCell ⟨w.heap.size + 1, 30, none⟩ (.int .i64 0) := ⟨_, rfl⟩
  rw [← hW2] at S2
  have C30 := hid (HS1.out.b.cell (cm_at HS1.out.y1 HS1.out.y2).2.1)
  have F30 := hid (HS1.out.b.frozen 30)
  have HW2 := hid hW2
  have S2 := hid S2
  clear hW2
  have S3 := S2.out.set 31 (.int .i64 0) (cm_sets S2.out.y1 S2.out.y2 0 0#32).2.2.1 S2.out.y1 S2.out.y2
  have S3 : CkSt w x _ (W2.setCell ⟨w.heap.size + 1, 31, none⟩ (.int .i64 0)) := S3
  obtain ⟨W3, hW3⟩ : ∃ W, W = W2.setCell ⟨w.heap.size + 1, 31, none⟩ (.int .i64 0) := ⟨_, rfl⟩
  rw [← hW3] at S3
  have C31 := hid (S2.out.b.cell (cm_at S2.out.y1 S2.out.y2).2.2.1)
  have F31 := hid (S2.out.b.frozen 31)
  have HW3 := hid hW3
  have S3 := hid S3
  clear hW3
  have kc_kd := S3.out.a.cell HPX.out.1
  have kc_30 := S3.out.a.cell HPX.out.2.1
  have kc_31 := S3.out.a.cell HPX.out.2.2.1
  have S4 := S3.out.set 32 (.int .i64 0) (cm_sets S3.out.y1 S3.out.y2 0 0#32).2.2.2.1 S3.out.y1 S3.out.y2
  have S4 : CkSt w x _ (W3.setCell ⟨w.heap.size + 1, 32, none⟩ (.int .i64 0)) := S4
  obtain ⟨W4, hW4⟩ : ∃ W, W = W3.setCell ⟨w.heap.size + 1, 32, none⟩ (.int .i64 0) := ⟨_, rfl⟩
  rw [← hW4] at S4
  have C32 := hid (S3.out.b.cell (cm_at S3.out.y1 S3.out.y2).2.2.2.1)
  have F32 := hid (S3.out.b.frozen 32)
  have HW4 := hid hW4
  have S4 := hid S4
  clear hW4
  have S5 := S4.out.set 33 (.int .i64 0) (cm_sets S4.out.y1 S4.out.y2 0 0#32).2.2.2.2.1 S4.out.y1 S4.out.y2
  have S5 : CkSt w x _ (W4.setCell ⟨w.heap.size + 1, 33, none⟩ (.int .i64 0)) := S5
  obtain ⟨W5, hW5⟩ : ∃ W, W = W4.setCell ⟨w.heap.size + 1, 33, none⟩ (.int .i64 0) := ⟨_, rfl⟩
  rw [← hW5] at S5
  have C33 := hid (S4.out.b.cell (cm_at S4.out.y1 S4.out.y2).2.2.2.2.1)
  have F33 := hid (S4.out.b.frozen 33)
  have HW5 := hid hW5
  have S5 := hid S5
  clear hW5
  have hs6 := S5.out.setP
  have THP := S5.out.b.there 35 26 (by rw [cmc_len S5.out.y1 S5.out.y2]; omega)
  obtain ⟨W6, hW6⟩ : ∃ W, W = W5.setCells (w.heap.size + 1) 35 (pcells 0 0 zeros) := ⟨_, rfl⟩
  rw [← hW6] at hs6
  have hs6 : CkSt w x (q2 x) W6 := hs6
  have HS6 := hid hs6
  have HW6 := hid hW6
  have HONP := hid (all_oneCell_toArray (pcells_one 0 0 zeros))
  clear hs6 hW6
  have hzz := rczero_any (q2 x) W6 ⟨HS6.out.y1, HS6.out.y2, h.len, h.cap, h.max, ((h.see.below HS6.out.be).more HS6.out.be.size)⟩
  have RGZ := HS6.out.b.range 0 (cmc (q2 x)) (by rw [List.drop_zero, List.take_length])
  have HLZ := hid (cmc_len HS6.out.y1 HS6.out.y2)
  rw [decide_eq_true (show cz (q2 x) from z)] at hzz
  obtain ⟨yc, hyc⟩ : ∃ c, c = cmc (q2 x) := ⟨_, rfl⟩
  rw [← hyc] at hzz RGZ HLZ
  have HZZ := hid hzz
  clear hzz hyc
  have q_hg : decide (x.dv < 0) = false := decide_eq_false (by omega)
  have q_hl : decide (6 ≤ x.dv) = false := decide_eq_false (by omega)
  have q_r1 : decide (x.rq < 1) = false := decide_eq_false (by omega)
  have q_r2 : decide (1099511627776 < x.rq) = false := decide_eq_false (by omega)
  have q_i1 : decide (1 ≤ x.id) = true := decide_eq_true (by omega)
  have q_hx : decide (x.id < 1073741824) = true := decide_eq_true (by omega)
  have q_b1 : decide (1 ≤ x.bs) = true := decide_eq_true (by omega)
  have q_b2 : decide (x.bs ≤ 1099511627776) = true := decide_eq_true (by omega)
  have HPC : Hid (∀ wx : World, Calls Try.prog 38 #[.agg (cmP x).toArray] wx fun e w' => e = .returned (.int .i64 (pchk x.pm (x.pl.toNat : Int) x.pf)) ∧ Below wx.heap.size wx w') := hid (fun wx => rpcheck_any x.pm (x.pl.toNat : Int) x.pf wx h.p8)
  have HPL := hid (cmP_len h.p8)
  obtain ⟨ip, hip⟩ : ∃ c, c = pchk x.pm (x.pl.toNat : Int) x.pf := ⟨_, rfl⟩
  rw [← hip] at HPC
  have HIP := hid hip
  clear hip
  have b0 : (ip == 0) = false := by rw [HIP.out]; simp [hp]
  have hHT : R = false := by rw [HR.out]; exact decide_eq_false (fun k => hp ((cok_2 hk).1 k).2.2.2.2.1)
  have HT := hid hHT
  clear hHT
  clear hk
  go_enter Try.func15, Try.ntmps15
  go_wp2_with (first
    | (refine wpList_load_mid rfl 32 (.tmp 1) rfl w.heap.size 0 rfl xc _ RG0 huc rfl (by rw [HLC.out]; exact info_cm) ?_
       simp only [pq4])
    | (refine wpList_store_asC rfl 32 (.tmp 3) (.tmp 4) rfl (w.heap.size + 1) 0 xc.toArray rfl rfl (by simpa [HLC.out] using TH1) (by simpa [HLC.out] using info_cm) HON.out W1 HW1.out ?_)
    | (refine wpList_store_i rfl 3 (.tmp 34) (.const (.int .i64 0)) rfl (w.heap.size + 1) 30 .i64 0 rfl rfl _ info_i C30.out F30.out W2 HW2.out ?_)
    | (refine wpList_store_i rfl 3 (.tmp 35) (.const (.int .i64 0)) rfl (w.heap.size + 1) 31 .i64 0 rfl rfl _ info_i C31.out F31.out W3 HW3.out ?_)
    | (refine wpList_store_i rfl 3 (.tmp 58) (.const (.int .i64 0)) rfl (w.heap.size + 1) 32 .i64 0 rfl rfl _ info_i C32.out F32.out W4 HW4.out ?_)
    | (refine wpList_store_i rfl 3 (.tmp 59) (.const (.int .i64 0)) rfl (w.heap.size + 1) 33 .i64 0 rfl rfl _ info_i C33.out F33.out W5 HW5.out ?_)
    | (refine wpList_store_asC rfl 27 (.tmp 61) (.tmp 60) rfl (w.heap.size + 1) 35 (pcells 0 0 zeros).toArray rfl rfl THP info_patch HONP.out W6 HW6.out ?_)
    | (refine wpList_load_mid rfl 32 (.tmp 3) rfl (w.heap.size + 1) 0 rfl yc _ RGZ huc rfl (by rw [HLZ.out]; exact info_cm) ?_; simp only [pq4])
    | fail)
  refine HZZ.out.mono ?_
  rintro e wz ⟨rfl, hbz⟩
  have HSZ := hid (HS6.out.later hbz)
  have kz_32 := HSZ.out.a.cell HPX.out.2.2.2.1
  have kz_33 := HSZ.out.a.cell HPX.out.2.2.2.2.1
  have HBE := hid HSZ.out.be
  clear hbz
  have RP := HSZ.out.a.range 35 (cmP x) (cm_patch h.e8 h.p8)
  obtain ⟨xp, hxp⟩ : ∃ c, c = cmP x := ⟨_, rfl⟩
  rw [← hxp] at HPC HPL RP
  clear hxp
  go_wp2_with (first
    | (refine wpList_load_g (by rfl) 27 (.tmp 85) rfl w.heap.size 35 rfl xp _ RP hup rfl (by rw [HPL.out]; exact info_patch) ?_; simp only [pq4])
    | fail)
  refine (HPC.out _).mono ?_
  rintro e wy ⟨rfl, hby⟩
  have HBE := hid (HSZ.out.later hby).be
  clear hby kz_32 kz_33
  go_wp2_with fail
  go_ret
  exact ⟨by first | rfl | (rw [HT.out]; rfl), HBE.out⟩
end Go.Proofs.Ytnhcjadkbogioaa
