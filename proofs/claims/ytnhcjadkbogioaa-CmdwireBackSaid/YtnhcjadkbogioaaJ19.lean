/- Commands: which may be, by the program: kind 3, d. -/
import Derived.Test.YtnhcjadkbogioaaJ17
import Derived.Test.YtnhcjadkbogioaaJ18
import Derived.Test.YtnhcjadkbogioaaJ4
import Derived.Test.YtnhcjadkbogioaaJ16
set_option maxRecDepth 100000
set_option maxHeartbeats 6400000
namespace Go.Proofs.Ytnhcjadkbogioaa
set_option linter.unusedVariables false
set_option linter.unusedSimpArgs false
open Go Go.RowKit OctM
theorem ccheck_3d (x : Cm) (w : World) (h : okCm w x) (hk : x.kd = 3) (hg : 0 ≤ x.dv) (hl : x.dv < 6) (hq : 1 ≤ x.rq ∧ x.rq ≤ 1099511627776) (hp : ¬ (lchk x.f = 0)) :
    Calls Try.prog 19 #[.agg (cmc x).toArray] w fun e w' => e = .returned (.bool (decide (cok x))) ∧ Below w.heap.size w w' := by
  have hue := Try.underlying29
  have hup := Try.underlying27
  have huc := Try.underlying32
  obtain ⟨hs1, hth⟩ := CkSt.new w x h.e8 h.p8
  have B0 := Blk.new w (cmc x) 32
  have RG0 := B0.range 0 (cmc x) (by rw [List.drop_zero, List.take_length])
  have honc := all_oneCell_toArray (cmc_one x)
  have HLC := hid (cmc_len h.e8 h.p8)
  have HPX := hid (cm_at h.e8 h.p8)
  obtain ⟨xc, hxc⟩ : ∃ c, c = cmc x := ⟨_, rfl⟩
  obtain ⟨W1, hW1⟩ : ∃ W1, W1 = ((w.alloc (.cells (cmc x).toArray 32)).alloc (.cells zA63 32)).setCells (w.heap.size + 1) 0 (cmc x) := ⟨_, rfl⟩
  rw [← hW1] at hs1
  rw [← hxc] at hW1 RG0 honc HLC hth ⊢
  have HS1 := hid hs1
  have HW1 := hid hW1
  have HON := hid honc
  have TH1 := hth
  obtain ⟨R, hR⟩ : ∃ R, R = decide (cok x) := ⟨_, rfl⟩
  rw [← hR]
  have HR := hid hR
  have e1 : (x.kd == 1) = false := by rw [hk]; rfl
  have e5 : (x.kd == 5) = false := by rw [hk]; rfl
  have e2 : (x.kd == 2) = false := by rw [hk]; rfl
  have e3 : (x.kd == 3) = true := by rw [hk]; rfl
  have e4 : (x.kd == 4) = false := by rw [hk]; rfl
  have ka_kd := HS1.out.a.cell HPX.out.1
  have kb_kd := HS1.out.b.cell (cm_at HS1.out.y1 HS1.out.y2).1
  have kf_kd := HS1.out.b.frozen 0
  clear hs1 hth hxc hW1 honc hR B0
  clear ka_kd kb_kd kf_kd
  have S2 := HS1.out.set 0 (.int .i64 0) (cm_sets HS1.out.y1 HS1.out.y2 0 0#32).1 HS1.out.y1 HS1.out.y2
  have S2 : CkSt w x _ (W1.setCell ⟨w.heap.size + 1, 0, none⟩ (.int .i64 0)) := S2
  obtain ⟨W2, hW2⟩ : ∃ W, W = W1.setCell ⟨w.heap.size + 1, 0, none⟩ (.int .i64 0) := ⟨_, rfl⟩
  rw [← hW2] at S2
  have C0 := hid (HS1.out.b.cell (cm_at HS1.out.y1 HS1.out.y2).1)
  have F0 := hid (HS1.out.b.frozen 0)
  have HW2 := hid hW2
  have S2 := hid S2
  clear hW2
  have S3 := S2.out.set 30 (.int .i64 0) (cm_sets S2.out.y1 S2.out.y2 0 0#32).2.1 S2.out.y1 S2.out.y2
  have S3 : CkSt w x _ (W2.setCell ⟨w.heap.size + 1, 30, none⟩ (.int .i64 0)) := S3
  obtain ⟨W3, hW3⟩ : ∃ W, W = W2.setCell ⟨w.heap.size + 1, 30, none⟩ (.int .i64 0) := ⟨_, rfl⟩
  rw [← hW3] at S3
  have C30 := hid (S2.out.b.cell (cm_at S2.out.y1 S2.out.y2).2.1)
  have F30 := hid (S2.out.b.frozen 30)
  have HW3 := hid hW3
  have S3 := hid S3
  clear hW3
  have HS4 := S3.out.set 31 (.int .i64 0) (cm_sets S3.out.y1 S3.out.y2 0 0#32).2.2.1 S3.out.y1 S3.out.y2
  have HS4 : CkSt w x (y4 x) (W3.setCell ⟨w.heap.size + 1, 31, none⟩ (.int .i64 0)) := HS4
  obtain ⟨W4, hW4⟩ : ∃ W, W = W3.setCell ⟨w.heap.size + 1, 31, none⟩ (.int .i64 0) := ⟨_, rfl⟩
  rw [← hW4] at HS4
  have C31 := hid (S3.out.b.cell (cm_at S3.out.y1 S3.out.y2).2.2.1)
  have F31 := hid (S3.out.b.frozen 31)
  have HW4 := hid hW4
  have HS4 := hid HS4
  clear hW4
  have ka_kd := S2.out.a.cell HPX.out.1
  have ka_30 := S2.out.a.cell HPX.out.2.1
  have ka_31 := S2.out.a.cell HPX.out.2.2.1
  have kd_kd := HS4.out.a.cell HPX.out.1
  have bg : decide (0 ≤ x.dv) = true := by simp [hg]
  have bl : decide (x.dv < 6) = true := by simp [hl]
  have HAQ : Hid (∀ wx : World, Calls Try.prog 43 #[.int .i64 x.rq] wx fun e w' => e = .returned (.bool true) ∧ wx = w') := hid (fun wx => by
    have h0 := cabove_any x.rq wx
    rwa [decide_eq_true hq] at h0)
  have ka_61 := HS4.out.a.cell HPX.out.2.2.2.2.2.2.1
  have HLK : Hid (∀ wx : World, Below w.heap.size w wx → Calls Try.prog 45 #[.slice x.A x.n x.c] wx fun e w' => e = .returned (.int .i64 (lchk x.f)) ∧ Below wx.heap.size wx w') := hid (fun wx hb => lcheck_any x.A x.n x.c x.f wx h.len ((h.see.below hb).more hb.size))
  obtain ⟨ip, hip⟩ : ∃ c, c = lchk x.f := ⟨_, rfl⟩
  rw [← hip] at HLK
  have HIP := hid hip
  clear hip
  have b0 : (ip == 0) = false := by rw [HIP.out]; simp [hp]
  go_enter Try.func19, Try.ntmps19
  go_wp2_with (first
    | (refine wpList_load_mid rfl 32 (.tmp 1) rfl w.heap.size 0 rfl xc _ RG0 huc rfl (by rw [HLC.out]; exact info_cm) ?_
       simp only [pq4])
    | (refine wpList_store_asC rfl 32 (.tmp 3) (.tmp 5) rfl (w.heap.size + 1) 0 xc.toArray rfl rfl (by simpa [HLC.out] using TH1) (by simpa [HLC.out] using info_cm) HON.out W1 HW1.out ?_)
    | (refine wpList_store_i rfl 3 (.tmp 6) (.const (.int .i64 0)) rfl (w.heap.size + 1) 0 .i64 0 rfl rfl _ info_i C0.out F0.out W2 HW2.out ?_)
    | fail)
  refine (HAQ.out _).mono ?_
  rintro e wq ⟨rfl, rfl⟩
  go_wp2_with (first
    | (refine wpList_store_i rfl 3 (.tmp 45) (.const (.int .i64 0)) rfl (w.heap.size + 1) 30 .i64 0 rfl rfl _ info_i C30.out F30.out W3 HW3.out ?_)
    | (refine wpList_store_i rfl 3 (.tmp 46) (.const (.int .i64 0)) rfl (w.heap.size + 1) 31 .i64 0 rfl rfl _ info_i C31.out F31.out W4 HW4.out ?_)
    | fail)
  refine (HLK.out _ HS4.out.be).mono ?_
  rintro e w5 ⟨rfl, hb5⟩
  have HS5 := hid (HS4.out.later hb5)
  have ka_62b := HS5.out.a.cell HPX.out.2.2.2.2.2.2.2
  clear kd_kd ka_kd ka_30 ka_31 hb5
  have S5 := HS5.out.set 61 (.slice none 0 0) (cm_sets HS5.out.y1 HS5.out.y2 0 0#32).2.2.2.2.2.2.1 HS5.out.y1 HS5.out.y2
  have S5 : CkSt w x _ (w5.setCell ⟨w.heap.size + 1, 61, none⟩ (.slice none 0 0)) := S5
  obtain ⟨W5, hW5⟩ : ∃ W, W = w5.setCell ⟨w.heap.size + 1, 61, none⟩ (.slice none 0 0) := ⟨_, rfl⟩
  rw [← hW5] at S5
  have C61 := hid (HS5.out.b.cell (cm_at HS5.out.y1 HS5.out.y2).2.2.2.2.2.2.1)
  have F61 := hid (HS5.out.b.frozen 61)
  have HW5 := hid hW5
  have S5 := hid S5
  clear hW5
  have HS6 := S5.out.set 62 (.int .u32 ((0#32 : BitVec 32).toNat : Int)) (cm_sets S5.out.y1 S5.out.y2 0 0#32).2.2.2.2.2.2.2 S5.out.y1 S5.out.y2
  have HS6 : CkSt w x (y3 x) (W5.setCell ⟨w.heap.size + 1, 62, none⟩ (.int .u32 0)) := HS6
  obtain ⟨W6, hW6⟩ : ∃ W, W = W5.setCell ⟨w.heap.size + 1, 62, none⟩ (.int .u32 0) := ⟨_, rfl⟩
  rw [← hW6] at HS6
  have C62 := hid (S5.out.b.cell (cm_at S5.out.y1 S5.out.y2).2.2.2.2.2.2.2)
  have F62 := hid (S5.out.b.frozen 62)
  have HW6 := hid hW6
  have HS6 := hid HS6
  clear hW6
  have hHT : R = false := by rw [HR.out]; exact decide_eq_false (fun z => hp ((cok_3 hk).1 z).2.2.1)
  have HT := hid hHT
  clear hHT
  have HBE := hid HS6.out.be
  clear hk
  go_wp2_with (first
    | (refine wpList_store_s rfl 30 (.tmp 91) (.const (.slice none 0 0)) rfl (w.heap.size + 1) 61 none 0 0 rfl rfl _ info_f C61.out F61.out W5 HW5.out ?_)
    | (refine wpList_store_i rfl 22 (.tmp 92) (.const (.int .u32 0)) rfl (w.heap.size + 1) 62 .u32 0 rfl rfl _ info_m C62.out F62.out W6 HW6.out ?_)
    | fail)
  go_ret
  exact ⟨by first | rfl | (rw [HT.out]; rfl), HBE.out⟩
theorem ccheck_3e (x : Cm) (w : World) (h : okCm w x) (hk : x.kd = 3) (hg : 0 ≤ x.dv) (hl : x.dv < 6) (hq : 1 ≤ x.rq ∧ x.rq ≤ 1099511627776) (hp : lchk x.f = 0) (hm : ¬ (x.ms.toNat ≤ 511)) :
    Calls Try.prog 19 #[.agg (cmc x).toArray] w fun e w' => e = .returned (.bool (decide (cok x))) ∧ Below w.heap.size w w' := by
  have hue := Try.underlying29
  have hup := Try.underlying27
  have huc := Try.underlying32
  obtain ⟨hs1, hth⟩ := CkSt.new w x h.e8 h.p8
  have B0 := Blk.new w (cmc x) 32
  have RG0 := B0.range 0 (cmc x) (by rw [List.drop_zero, List.take_length])
  have honc := all_oneCell_toArray (cmc_one x)
  have HLC := hid (cmc_len h.e8 h.p8)
  have HPX := hid (cm_at h.e8 h.p8)
  obtain ⟨xc, hxc⟩ : ∃ c, c = cmc x := ⟨_, rfl⟩
  obtain ⟨W1, hW1⟩ : ∃ W1, W1 = ((w.alloc (.cells (cmc x).toArray 32)).alloc (.cells zA63 32)).setCells (w.heap.size + 1) 0 (cmc x) := ⟨_, rfl⟩
  rw [← hW1] at hs1
  rw [← hxc] at hW1 RG0 honc HLC hth ⊢
  have HS1 := hid hs1
  have HW1 := hid hW1
  have HON := hid honc
  have TH1 := hth
  obtain ⟨R, hR⟩ : ∃ R, R = decide (cok x) := ⟨_, rfl⟩
  rw [← hR]
  have HR := hid hR
  have e1 : (x.kd == 1) = false := by rw [hk]; rfl
  have e5 : (x.kd == 5) = false := by rw [hk]; rfl
  have e2 : (x.kd == 2) = false := by rw [hk]; rfl
  have e3 : (x.kd == 3) = true := by rw [hk]; rfl
  have e4 : (x.kd == 4) = false := by rw [hk]; rfl
  have ka_kd := HS1.out.a.cell HPX.out.1
  have kb_kd := HS1.out.b.cell (cm_at HS1.out.y1 HS1.out.y2).1
  have kf_kd := HS1.out.b.frozen 0
  clear hs1 hth hxc hW1 honc hR B0
  clear ka_kd kb_kd kf_kd
  have S2 := HS1.out.set 0 (.int .i64 0) (cm_sets HS1.out.y1 HS1.out.y2 0 0#32).1 HS1.out.y1 HS1.out.y2
  have S2 : CkSt w x _ (W1.setCell ⟨w.heap.size + 1, 0, none⟩ (.int .i64 0)) := S2
  obtain ⟨W2, hW2⟩ : ∃ W, W = W1.setCell ⟨w.heap.size + 1, 0, none⟩ (.int .i64 0) := ⟨_, rfl⟩
  rw [← hW2] at S2
  have C0 := hid (HS1.out.b.cell (cm_at HS1.out.y1 HS1.out.y2).1)
  have F0 := hid (HS1.out.b.frozen 0)
  have HW2 := hid hW2
  have S2 := hid S2
  clear hW2
  have S3 := S2.out.set 30 (.int .i64 0) (cm_sets S2.out.y1 S2.out.y2 0 0#32).2.1 S2.out.y1 S2.out.y2
  have S3 : CkSt w x _ (W2.setCell ⟨w.heap.size + 1, 30, none⟩ (.int .i64 0)) := S3
  obtain ⟨W3, hW3⟩ : ∃ W, W = W2.setCell ⟨w.heap.size + 1, 30, none⟩ (.int .i64 0) := ⟨_, rfl⟩
  rw [← hW3] at S3
  have C30 := hid (S2.out.b.cell (cm_at S2.out.y1 S2.out.y2).2.1)
  have F30 := hid (S2.out.b.frozen 30)
  have HW3 := hid hW3
  have S3 := hid S3
  clear hW3
  have HS4 := S3.out.set 31 (.int .i64 0) (cm_sets S3.out.y1 S3.out.y2 0 0#32).2.2.1 S3.out.y1 S3.out.y2
  have HS4 : CkSt w x (y4 x) (W3.setCell ⟨w.heap.size + 1, 31, none⟩ (.int .i64 0)) := HS4
  obtain ⟨W4, hW4⟩ : ∃ W, W = W3.setCell ⟨w.heap.size + 1, 31, none⟩ (.int .i64 0) := ⟨_, rfl⟩
  rw [← hW4] at HS4
  have C31 := hid (S3.out.b.cell (cm_at S3.out.y1 S3.out.y2).2.2.1)
  have F31 := hid (S3.out.b.frozen 31)
  have HW4 := hid hW4
  have HS4 := hid HS4
  clear hW4
  have ka_kd := S2.out.a.cell HPX.out.1
  have ka_30 := S2.out.a.cell HPX.out.2.1
  have ka_31 := S2.out.a.cell HPX.out.2.2.1
  have kd_kd := HS4.out.a.cell HPX.out.1
  have bg : decide (0 ≤ x.dv) = true := by simp [hg]
  have bl : decide (x.dv < 6) = true := by simp [hl]
  have HAQ : Hid (∀ wx : World, Calls Try.prog 43 #[.int .i64 x.rq] wx fun e w' => e = .returned (.bool true) ∧ wx = w') := hid (fun wx => by
    have h0 := cabove_any x.rq wx
    rwa [decide_eq_true hq] at h0)
  have ka_61 := HS4.out.a.cell HPX.out.2.2.2.2.2.2.1
  have HLK : Hid (∀ wx : World, Below w.heap.size w wx → Calls Try.prog 45 #[.slice x.A x.n x.c] wx fun e w' => e = .returned (.int .i64 (lchk x.f)) ∧ Below wx.heap.size wx w') := hid (fun wx hb => lcheck_any x.A x.n x.c x.f wx h.len ((h.see.below hb).more hb.size))
  obtain ⟨ip, hip⟩ : ∃ c, c = lchk x.f := ⟨_, rfl⟩
  rw [← hip] at HLK
  have HIP := hid hip
  clear hip
  have b0 : (ip == 0) = true := by rw [HIP.out]; simp [hp]
  have HMK : Hid (∀ wx : World, Calls Try.prog 46 #[.int .u32 (x.ms.toNat : Int)] wx fun e w' => e = .returned (.bool false) ∧ wx = w') := hid (fun wx => by
    have h0 := mcheck_any x.ms wx
    rwa [decide_eq_false hm] at h0)
  go_enter Try.func19, Try.ntmps19
  go_wp2_with (first
    | (refine wpList_load_mid rfl 32 (.tmp 1) rfl w.heap.size 0 rfl xc _ RG0 huc rfl (by rw [HLC.out]; exact info_cm) ?_
       simp only [pq4])
    | (refine wpList_store_asC rfl 32 (.tmp 3) (.tmp 5) rfl (w.heap.size + 1) 0 xc.toArray rfl rfl (by simpa [HLC.out] using TH1) (by simpa [HLC.out] using info_cm) HON.out W1 HW1.out ?_)
    | (refine wpList_store_i rfl 3 (.tmp 6) (.const (.int .i64 0)) rfl (w.heap.size + 1) 0 .i64 0 rfl rfl _ info_i C0.out F0.out W2 HW2.out ?_)
    | fail)
  refine (HAQ.out _).mono ?_
  rintro e wq ⟨rfl, rfl⟩
  go_wp2_with (first
    | (refine wpList_store_i rfl 3 (.tmp 45) (.const (.int .i64 0)) rfl (w.heap.size + 1) 30 .i64 0 rfl rfl _ info_i C30.out F30.out W3 HW3.out ?_)
    | (refine wpList_store_i rfl 3 (.tmp 46) (.const (.int .i64 0)) rfl (w.heap.size + 1) 31 .i64 0 rfl rfl _ info_i C31.out F31.out W4 HW4.out ?_)
    | fail)
  refine (HLK.out _ HS4.out.be).mono ?_
  rintro e w5 ⟨rfl, hb5⟩
  have HS5 := hid (HS4.out.later hb5)
  have ka_62b := HS5.out.a.cell HPX.out.2.2.2.2.2.2.2
  clear kd_kd ka_kd ka_30 ka_31 hb5
  have S5 := HS5.out.set 61 (.slice none 0 0) (cm_sets HS5.out.y1 HS5.out.y2 0 0#32).2.2.2.2.2.2.1 HS5.out.y1 HS5.out.y2
  have S5 : CkSt w x _ (w5.setCell ⟨w.heap.size + 1, 61, none⟩ (.slice none 0 0)) := S5
  obtain ⟨W5, hW5⟩ : ∃ W, W = w5.setCell ⟨w.heap.size + 1, 61, none⟩ (.slice none 0 0) := ⟨_, rfl⟩
  rw [← hW5] at S5
  have C61 := hid (HS5.out.b.cell (cm_at HS5.out.y1 HS5.out.y2).2.2.2.2.2.2.1)
  have F61 := hid (HS5.out.b.frozen 61)
  have HW5 := hid hW5
  have S5 := hid S5
  clear hW5
  have HS6 := S5.out.set 62 (.int .u32 ((0#32 : BitVec 32).toNat : Int)) (cm_sets S5.out.y1 S5.out.y2 0 0#32).2.2.2.2.2.2.2 S5.out.y1 S5.out.y2
  have HS6 : CkSt w x (y3 x) (W5.setCell ⟨w.heap.size + 1, 62, none⟩ (.int .u32 0)) := HS6
  obtain ⟨W6, hW6⟩ : ∃ W, W = W5.setCell ⟨w.heap.size + 1, 62, none⟩ (.int .u32 0) := ⟨_, rfl⟩
  rw [← hW6] at HS6
  have C62 := hid (S5.out.b.cell (cm_at S5.out.y1 S5.out.y2).2.2.2.2.2.2.2)
  have F62 := hid (S5.out.b.frozen 62)
  have HW6 := hid hW6
  have HS6 := hid HS6
  clear hW6
  have hHT : R = false := by rw [HR.out]; exact decide_eq_false (fun z => hm ((cok_3 hk).1 z).2.2.2.1)
  have HT := hid hHT
  clear hHT
  have HBE := hid HS6.out.be
  clear hk
  go_wp2_with fail
  refine (HMK.out _).mono ?_
  rintro e wq ⟨rfl, rfl⟩
  go_wp2_with (first
    | (refine wpList_store_s rfl 30 (.tmp 91) (.const (.slice none 0 0)) rfl (w.heap.size + 1) 61 none 0 0 rfl rfl _ info_f C61.out F61.out W5 HW5.out ?_)
    | (refine wpList_store_i rfl 22 (.tmp 92) (.const (.int .u32 0)) rfl (w.heap.size + 1) 62 .u32 0 rfl rfl _ info_m C62.out F62.out W6 HW6.out ?_)
    | fail)
  go_ret
  exact ⟨by first | rfl | (rw [HT.out]; rfl), HBE.out⟩
theorem ccheck_3f (x : Cm) (w : World) (h : okCm w x) (hk : x.kd = 3) (hg : 0 ≤ x.dv) (hl : x.dv < 6) (hq : 1 ≤ x.rq ∧ x.rq ≤ 1099511627776) (hp : lchk x.f = 0) (hm : x.ms.toNat ≤ 511) :
    Calls Try.prog 19 #[.agg (cmc x).toArray] w fun e w' => e = .returned (.bool (decide (cok x))) ∧ Below w.heap.size w w' := by
  have hue := Try.underlying29
  have hup := Try.underlying27
  have huc := Try.underlying32
  obtain ⟨hs1, hth⟩ := CkSt.new w x h.e8 h.p8
  have B0 := Blk.new w (cmc x) 32
  have RG0 := B0.range 0 (cmc x) (by rw [List.drop_zero, List.take_length])
  have honc := all_oneCell_toArray (cmc_one x)
  have HLC := hid (cmc_len h.e8 h.p8)
  have HPX := hid (cm_at h.e8 h.p8)
  obtain ⟨xc, hxc⟩ : ∃ c, c = cmc x := ⟨_, rfl⟩
  obtain ⟨W1, hW1⟩ : ∃ W1, W1 = ((w.alloc (.cells (cmc x).toArray 32)).alloc (.cells zA63 32)).setCells (w.heap.size + 1) 0 (cmc x) := ⟨_, rfl⟩
  rw [← hW1] at hs1
  rw [← hxc] at hW1 RG0 honc HLC hth ⊢
  have HS1 := hid hs1
  have HW1 := hid hW1
  have HON := hid honc
  have TH1 := hth
  obtain ⟨R, hR⟩ : ∃ R, R = decide (cok x) := ⟨_, rfl⟩
  rw [← hR]
  have HR := hid hR
  have e1 : (x.kd == 1) = false := by rw [hk]; rfl
  have e5 : (x.kd == 5) = false := by rw [hk]; rfl
  have e2 : (x.kd == 2) = false := by rw [hk]; rfl
  have e3 : (x.kd == 3) = true := by rw [hk]; rfl
  have e4 : (x.kd == 4) = false := by rw [hk]; rfl
  have ka_kd := HS1.out.a.cell HPX.out.1
  have kb_kd := HS1.out.b.cell (cm_at HS1.out.y1 HS1.out.y2).1
  have kf_kd := HS1.out.b.frozen 0
  clear hs1 hth hxc hW1 honc hR B0
  clear ka_kd kb_kd kf_kd
  have S2 := HS1.out.set 0 (.int .i64 0) (cm_sets HS1.out.y1 HS1.out.y2 0 0#32).1 HS1.out.y1 HS1.out.y2
  have S2 : CkSt w x _ (W1.setCell ⟨w.heap.size + 1, 0, none⟩ (.int .i64 0)) := S2
  obtain ⟨W2, hW2⟩ : ∃ W, W = W1.setCell ⟨w.heap.size + 1, 0, none⟩ (.int .i64 0) := ⟨_, rfl⟩
  rw [← hW2] at S2
  have C0 := hid (HS1.out.b.cell (cm_at HS1.out.y1 HS1.out.y2).1)
  have F0 := hid (HS1.out.b.frozen 0)
  have HW2 := hid hW2
  have S2 := hid S2
  clear hW2
  have S3 := S2.out.set 30 (.int .i64 0) (cm_sets S2.out.y1 S2.out.y2 0 0#32).2.1 S2.out.y1 S2.out.y2
  have S3 : CkSt w x _ (W2.setCell ⟨w.heap.size + 1, 30, none⟩ (.int .i64 0)) := S3
  obtain ⟨W3, hW3⟩ : ∃ W, W = W2.setCell ⟨w.heap.size + 1, 30, none⟩ (.int .i64 0) := ⟨_, rfl⟩
  rw [← hW3] at S3
  have C30 := hid (S2.out.b.cell (cm_at S2.out.y1 S2.out.y2).2.1)
  have F30 := hid (S2.out.b.frozen 30)
  have HW3 := hid hW3
  have S3 := hid S3
  clear hW3
  have HS4 := S3.out.set 31 (.int .i64 0) (cm_sets S3.out.y1 S3.out.y2 0 0#32).2.2.1 S3.out.y1 S3.out.y2
  have HS4 : CkSt w x (y4 x) (W3.setCell ⟨w.heap.size + 1, 31, none⟩ (.int .i64 0)) := HS4
  obtain ⟨W4, hW4⟩ : ∃ W, W = W3.setCell ⟨w.heap.size + 1, 31, none⟩ (.int .i64 0) := ⟨_, rfl⟩
  rw [← hW4] at HS4
  have C31 := hid (S3.out.b.cell (cm_at S3.out.y1 S3.out.y2).2.2.1)
  have F31 := hid (S3.out.b.frozen 31)
  have HW4 := hid hW4
  have HS4 := hid HS4
  clear hW4
  have ka_kd := S2.out.a.cell HPX.out.1
  have ka_30 := S2.out.a.cell HPX.out.2.1
  have ka_31 := S2.out.a.cell HPX.out.2.2.1
  have kd_kd := HS4.out.a.cell HPX.out.1
  have bg : decide (0 ≤ x.dv) = true := by simp [hg]
  have bl : decide (x.dv < 6) = true := by simp [hl]
  have HAQ : Hid (∀ wx : World, Calls Try.prog 43 #[.int .i64 x.rq] wx fun e w' => e = .returned (.bool true) ∧ wx = w') := hid (fun wx => by
    have h0 := cabove_any x.rq wx
    rwa [decide_eq_true hq] at h0)
  have ka_61 := HS4.out.a.cell HPX.out.2.2.2.2.2.2.1
  have HLK : Hid (∀ wx : World, Below w.heap.size w wx → Calls Try.prog 45 #[.slice x.A x.n x.c] wx fun e w' => e = .returned (.int .i64 (lchk x.f)) ∧ Below wx.heap.size wx w') := hid (fun wx hb => lcheck_any x.A x.n x.c x.f wx h.len ((h.see.below hb).more hb.size))
  obtain ⟨ip, hip⟩ : ∃ c, c = lchk x.f := ⟨_, rfl⟩
  rw [← hip] at HLK
  have HIP := hid hip
  clear hip
  have b0 : (ip == 0) = true := by rw [HIP.out]; simp [hp]
  have HMK : Hid (∀ wx : World, Calls Try.prog 46 #[.int .u32 (x.ms.toNat : Int)] wx fun e w' => e = .returned (.bool true) ∧ wx = w') := hid (fun wx => by
    have h0 := mcheck_any x.ms wx
    rwa [decide_eq_true hm] at h0)
  go_enter Try.func19, Try.ntmps19
  go_wp2_with (first
    | (refine wpList_load_mid rfl 32 (.tmp 1) rfl w.heap.size 0 rfl xc _ RG0 huc rfl (by rw [HLC.out]; exact info_cm) ?_
       simp only [pq4])
    | (refine wpList_store_asC rfl 32 (.tmp 3) (.tmp 5) rfl (w.heap.size + 1) 0 xc.toArray rfl rfl (by simpa [HLC.out] using TH1) (by simpa [HLC.out] using info_cm) HON.out W1 HW1.out ?_)
    | (refine wpList_store_i rfl 3 (.tmp 6) (.const (.int .i64 0)) rfl (w.heap.size + 1) 0 .i64 0 rfl rfl _ info_i C0.out F0.out W2 HW2.out ?_)
    | fail)
  refine (HAQ.out _).mono ?_
  rintro e wq ⟨rfl, rfl⟩
  go_wp2_with (first
    | (refine wpList_store_i rfl 3 (.tmp 45) (.const (.int .i64 0)) rfl (w.heap.size + 1) 30 .i64 0 rfl rfl _ info_i C30.out F30.out W3 HW3.out ?_)
    | (refine wpList_store_i rfl 3 (.tmp 46) (.const (.int .i64 0)) rfl (w.heap.size + 1) 31 .i64 0 rfl rfl _ info_i C31.out F31.out W4 HW4.out ?_)
    | fail)
  refine (HLK.out _ HS4.out.be).mono ?_
  rintro e w5 ⟨rfl, hb5⟩
  have HS5 := hid (HS4.out.later hb5)
  have ka_62b := HS5.out.a.cell HPX.out.2.2.2.2.2.2.2
  clear kd_kd ka_kd ka_30 ka_31 hb5
  have S5 := HS5.out.set 61 (.slice none 0 0) (cm_sets HS5.out.y1 HS5.out.y2 0 0#32).2.2.2.2.2.2.1 HS5.out.y1 HS5.out.y2
  have S5 : CkSt w x _ (w5.setCell ⟨w.heap.size + 1, 61, none⟩ (.slice none 0 0)) := S5
  obtain ⟨W5, hW5⟩ : ∃ W, W = w5.setCell ⟨w.heap.size + 1, 61, none⟩ (.slice none 0 0) := ⟨_, rfl⟩
  rw [← hW5] at S5
  have C61 := hid (HS5.out.b.cell (cm_at HS5.out.y1 HS5.out.y2).2.2.2.2.2.2.1)
  have F61 := hid (HS5.out.b.frozen 61)
  have HW5 := hid hW5
  have S5 := hid S5
  clear hW5
  have HS6 := S5.out.set 62 (.int .u32 ((0#32 : BitVec 32).toNat : Int)) (cm_sets S5.out.y1 S5.out.y2 0 0#32).2.2.2.2.2.2.2 S5.out.y1 S5.out.y2
  have HS6 : CkSt w x (y3 x) (W5.setCell ⟨w.heap.size + 1, 62, none⟩ (.int .u32 0)) := HS6
  obtain ⟨W6, hW6⟩ : ∃ W, W = W5.setCell ⟨w.heap.size + 1, 62, none⟩ (.int .u32 0) := ⟨_, rfl⟩
  rw [← hW6] at HS6
  have C62 := hid (S5.out.b.cell (cm_at S5.out.y1 S5.out.y2).2.2.2.2.2.2.2)
  have F62 := hid (S5.out.b.frozen 62)
  have HW6 := hid hW6
  have HS6 := hid HS6
  clear hW6
  have hzz := czero_any (y3 x) W6 ⟨HS6.out.y1, HS6.out.y2, rfl, Nat.le_refl 0, Nat.zero_le _, fun hp => absurd hp (Nat.lt_irrefl 0)⟩
  have RGZ := HS6.out.b.range 0 (cmc (y3 x)) (by rw [List.drop_zero, List.take_length])
  have HLZ := hid (cmc_len HS6.out.y1 HS6.out.y2)
  obtain ⟨yc, hyc⟩ : ∃ c, c = cmc (y3 x) := ⟨_, rfl⟩
  obtain ⟨zr, hzr⟩ : ∃ b, b = decide (cz (y3 x)) := ⟨_, rfl⟩
  rw [← hyc] at hzz RGZ HLZ
  rw [← hzr] at hzz
  have hHT : R = zr := by rw [HR.out, hzr]; exact decide_eq_decide.2 ((cok_3 hk).trans ⟨fun z => z.2.2.2.2, fun z => ⟨⟨hg, hl⟩, hq, hp, hm, z⟩⟩)
  have HZZ := hid hzz
  have HT := hid hHT
  have HBE := hid HS6.out.be
  clear hzz hyc hzr hHT
  clear hk
  go_wp2_with fail
  refine (HMK.out _).mono ?_
  rintro e wq ⟨rfl, rfl⟩
  go_wp2_with (first
    | (refine wpList_store_s rfl 30 (.tmp 91) (.const (.slice none 0 0)) rfl (w.heap.size + 1) 61 none 0 0 rfl rfl _ info_f C61.out F61.out W5 HW5.out ?_)
    | (refine wpList_store_i rfl 22 (.tmp 92) (.const (.int .u32 0)) rfl (w.heap.size + 1) 62 .u32 0 rfl rfl _ info_m C62.out F62.out W6 HW6.out ?_)
    | (refine wpList_load_g (by rfl) 32 (.tmp 3) rfl (w.heap.size + 1) 0 rfl yc _ RGZ huc rfl (by rw [HLZ.out]; exact info_cm) ?_; simp only [pq4])
    | fail)
  refine HZZ.out.mono ?_
  rintro e w9 ⟨rfl, hb9⟩
  have HB9 := hid (HBE.out.trans (hb9.mono HBE.out.size))
  clear hb9
  go_wp2_with fail
  go_ret
  exact ⟨by first | rfl | (rw [HT.out]; rfl), HB9.out⟩
theorem ccheck_3 (x : Cm) (w : World) (h : okCm w x) (hk : x.kd = 3) :
    Calls Try.prog 19 #[.agg (cmc x).toArray] w fun e w' => e = .returned (.bool (decide (cok x))) ∧ Below w.heap.size w w' := by
  by_cases hg : 0 ≤ x.dv
  case neg => exact ccheck_3a x w h hk hg
  by_cases hl : x.dv < 6
  case neg => exact ccheck_3b x w h hk hg hl
  by_cases hq : 1 ≤ x.rq ∧ x.rq ≤ 1099511627776
  case neg => exact ccheck_3c x w h hk hg hl hq
  by_cases hp : lchk x.f = 0
  case neg => exact ccheck_3d x w h hk hg hl hq hp
  by_cases hm : x.ms.toNat ≤ 511
  case neg => exact ccheck_3e x w h hk hg hl hq hp hm
  exact ccheck_3f x w h hk hg hl hq hp hm
theorem ccheck_4 (x : Cm) (w : World) (h : okCm w x) (hk : x.kd = 4) :
    Calls Try.prog 19 #[.agg (cmc x).toArray] w fun e w' => e = .returned (.bool (decide (cok x))) ∧ Below w.heap.size w w' := by
  have hue := Try.underlying29
  have hup := Try.underlying27
  have huc := Try.underlying32
  obtain ⟨hs1, hth⟩ := CkSt.new w x h.e8 h.p8
  have B0 := Blk.new w (cmc x) 32
  have RG0 := B0.range 0 (cmc x) (by rw [List.drop_zero, List.take_length])
  have honc := all_oneCell_toArray (cmc_one x)
  have HLC := hid (cmc_len h.e8 h.p8)
  have HPX := hid (cm_at h.e8 h.p8)
  obtain ⟨xc, hxc⟩ : ∃ c, c = cmc x := ⟨_, rfl⟩
  obtain ⟨W1, hW1⟩ : ∃ W1, W1 = ((w.alloc (.cells (cmc x).toArray 32)).alloc (.cells zA63 32)).setCells (w.heap.size + 1) 0 (cmc x) := ⟨_, rfl⟩
  rw [← hW1] at hs1
  rw [← hxc] at hW1 RG0 honc HLC hth ⊢
  have HS1 := hid hs1
  have HW1 := hid hW1
  have HON := hid honc
  have TH1 := hth
  obtain ⟨R, hR⟩ : ∃ R, R = decide (cok x) := ⟨_, rfl⟩
  rw [← hR]
  have HR := hid hR
  have e1 : (x.kd == 1) = false := by rw [hk]; rfl
  have e5 : (x.kd == 5) = false := by rw [hk]; rfl
  have e2 : (x.kd == 2) = false := by rw [hk]; rfl
  have e3 : (x.kd == 3) = false := by rw [hk]; rfl
  have e4 : (x.kd == 4) = true := by rw [hk]; rfl
  have ka_kd := HS1.out.a.cell HPX.out.1
  have kb_kd := HS1.out.b.cell (cm_at HS1.out.y1 HS1.out.y2).1
  have kf_kd := HS1.out.b.frozen 0
  clear hs1 hth hxc hW1 honc hR B0
  have ka_30 := HS1.out.a.cell HPX.out.2.1
  have ka_31 := HS1.out.a.cell HPX.out.2.2.1
  have kb_30 := HS1.out.b.cell (cm_at HS1.out.y1 HS1.out.y2).2.1
  have kb_31 := HS1.out.b.cell (cm_at HS1.out.y1 HS1.out.y2).2.2.1
  have kf_30 := HS1.out.b.frozen 30
  have kf_31 := HS1.out.b.frozen 31
  have hs2 := HS1.out.set 0 (.int .i64 0) (cm_sets HS1.out.y1 HS1.out.y2 0 0#32).1 HS1.out.y1 HS1.out.y2
  have hs3 := hs2.set 30 (.int .i64 0) (cm_sets hs2.y1 hs2.y2 0 0#32).2.1 hs2.y1 hs2.y2
  have hs4 := hs3.set 31 (.int .i64 0) (cm_sets hs3.y1 hs3.y2 0 0#32).2.2.1 hs3.y1 hs3.y2
  have hs4 : CkSt w x (y4 x) _ := hs4
  have HS4 := hid hs4
  clear hs2 hs3 hs4
  by_cases hg : 0 ≤ x.dv
  · have bg : decide (0 ≤ x.dv) = true := by simp [hg]
    by_cases hl : x.dv < 6
    · have bl : decide (x.dv < 6) = true := by simp [hl]
      by_cases hq : 1 ≤ x.rq ∧ x.rq ≤ 1099511627776
      · have HAQ : Hid (∀ wx : World, Calls Try.prog 43 #[.int .i64 x.rq] wx fun e w' => e = .returned (.bool true) ∧ wx = w') := hid (fun wx => by
          have h0 := cabove_any x.rq wx
          rwa [decide_eq_true hq] at h0)
        have hzz := czero_any (y4 x) _ ⟨HS4.out.y1, HS4.out.y2, h.len, h.cap, h.max, ((h.see.below HS4.out.be).more HS4.out.be.size)⟩
        have RGZ := HS4.out.b.range 0 (cmc (y4 x)) (by rw [List.drop_zero, List.take_length])
        have HLZ := hid (cmc_len HS4.out.y1 HS4.out.y2)
        obtain ⟨yc, hyc⟩ : ∃ c, c = cmc (y4 x) := ⟨_, rfl⟩
        obtain ⟨zr, hzr⟩ : ∃ b, b = decide (cz (y4 x)) := ⟨_, rfl⟩
        rw [← hyc] at hzz RGZ HLZ
        rw [← hzr] at hzz
        have hHT : R = zr := by rw [HR.out, hzr]; exact decide_eq_decide.2 ((cok_4 hk).trans ⟨fun z => z.2.2, fun z => ⟨⟨hg, hl⟩, hq, z⟩⟩)
        have HZZ := hid hzz
        have HT := hid hHT
        have HBE := hid HS4.out.be
        clear hzz hyc hzr hHT
        clear hk
        go_enter Try.func19, Try.ntmps19
        go_wp2_with (first
          | (refine wpList_load_mid rfl 32 (.tmp 1) rfl w.heap.size 0 rfl xc _ RG0 huc rfl (by rw [HLC.out]; exact info_cm) ?_
             simp only [pq4])
          | (refine wpList_store_asC rfl 32 (.tmp 3) (.tmp 5) rfl (w.heap.size + 1) 0 xc.toArray rfl rfl (by simpa [HLC.out] using TH1) (by simpa [HLC.out] using info_cm) HON.out W1 HW1.out ?_)
          | fail)
        refine (HAQ.out _).mono ?_
        rintro e wq ⟨rfl, rfl⟩
        go_wp2_with (first
          | (refine wpList_load_g (by rfl) 32 (.tmp 3) rfl (w.heap.size + 1) 0 rfl yc _ RGZ huc rfl (by rw [HLZ.out]; exact info_cm) ?_; simp only [pq4])
          | fail)
        refine HZZ.out.mono ?_
        rintro e w9 ⟨rfl, hb9⟩
        have HB9 := hid (HBE.out.trans (hb9.mono HBE.out.size))
        clear hb9
        go_wp2_with fail
        go_ret
        exact ⟨by first | rfl | (rw [HT.out]; rfl), HB9.out⟩
      · have HAQ : Hid (∀ wx : World, Calls Try.prog 43 #[.int .i64 x.rq] wx fun e w' => e = .returned (.bool false) ∧ wx = w') := hid (fun wx => by
          have h0 := cabove_any x.rq wx
          rwa [decide_eq_false hq] at h0)
        have hHT : R = false := by rw [HR.out]; exact decide_eq_false (fun z => hq ((cok_4 hk).1 z).2.1)
        have HT := hid hHT
        clear hHT
        have HBE := hid HS4.out.be
        clear hk
        go_enter Try.func19, Try.ntmps19
        go_wp2_with (first
          | (refine wpList_load_mid rfl 32 (.tmp 1) rfl w.heap.size 0 rfl xc _ RG0 huc rfl (by rw [HLC.out]; exact info_cm) ?_
             simp only [pq4])
          | (refine wpList_store_asC rfl 32 (.tmp 3) (.tmp 5) rfl (w.heap.size + 1) 0 xc.toArray rfl rfl (by simpa [HLC.out] using TH1) (by simpa [HLC.out] using info_cm) HON.out W1 HW1.out ?_)
          | fail)
        refine (HAQ.out _).mono ?_
        rintro e wq ⟨rfl, rfl⟩
        go_wp2_with fail
        go_ret
        exact ⟨by first | rfl | (rw [HT.out]; rfl), HBE.out⟩
    · have bl : decide (x.dv < 6) = false := by simp [hl]
      have hHT : R = false := by rw [HR.out]; exact decide_eq_false (fun z => hl ((cok_4 hk).1 z).1.2)
      have HT := hid hHT
      clear hHT
      have HBE := hid HS4.out.be
      clear hk
      go_enter Try.func19, Try.ntmps19
      go_wp2_with (first
        | (refine wpList_load_mid rfl 32 (.tmp 1) rfl w.heap.size 0 rfl xc _ RG0 huc rfl (by rw [HLC.out]; exact info_cm) ?_
           simp only [pq4])
        | (refine wpList_store_asC rfl 32 (.tmp 3) (.tmp 5) rfl (w.heap.size + 1) 0 xc.toArray rfl rfl (by simpa [HLC.out] using TH1) (by simpa [HLC.out] using info_cm) HON.out W1 HW1.out ?_)
        | fail)
      go_ret
      exact ⟨by first | rfl | (rw [HT.out]; rfl), HBE.out⟩
  · have bg : decide (0 ≤ x.dv) = false := by simp [hg]
    have hHT : R = false := by rw [HR.out]; exact decide_eq_false (fun z => hg ((cok_4 hk).1 z).1.1)
    have HT := hid hHT
    clear hHT
    have HBE := hid HS4.out.be
    clear hk
    go_enter Try.func19, Try.ntmps19
    go_wp2_with (first
      | (refine wpList_load_mid rfl 32 (.tmp 1) rfl w.heap.size 0 rfl xc _ RG0 huc rfl (by rw [HLC.out]; exact info_cm) ?_
         simp only [pq4])
      | (refine wpList_store_asC rfl 32 (.tmp 3) (.tmp 5) rfl (w.heap.size + 1) 0 xc.toArray rfl rfl (by simpa [HLC.out] using TH1) (by simpa [HLC.out] using info_cm) HON.out W1 HW1.out ?_)
      | fail)
    go_ret
    exact ⟨by first | rfl | (rw [HT.out]; rfl), HBE.out⟩
theorem ccheck_5 (x : Cm) (w : World) (h : okCm w x) (hk : x.kd = 5) :
    Calls Try.prog 19 #[.agg (cmc x).toArray] w fun e w' => e = .returned (.bool (decide (cok x))) ∧ Below w.heap.size w w' := by
  have hue := Try.underlying29
  have hup := Try.underlying27
  have huc := Try.underlying32
  obtain ⟨hs1, hth⟩ := CkSt.new w x h.e8 h.p8
  have B0 := Blk.new w (cmc x) 32
  have RG0 := B0.range 0 (cmc x) (by rw [List.drop_zero, List.take_length])
  have honc := all_oneCell_toArray (cmc_one x)
  have HLC := hid (cmc_len h.e8 h.p8)
  have HPX := hid (cm_at h.e8 h.p8)
  obtain ⟨xc, hxc⟩ : ∃ c, c = cmc x := ⟨_, rfl⟩
  obtain ⟨W1, hW1⟩ : ∃ W1, W1 = ((w.alloc (.cells (cmc x).toArray 32)).alloc (.cells zA63 32)).setCells (w.heap.size + 1) 0 (cmc x) := ⟨_, rfl⟩
  rw [← hW1] at hs1
  rw [← hxc] at hW1 RG0 honc HLC hth ⊢
  have HS1 := hid hs1
  have HW1 := hid hW1
  have HON := hid honc
  have TH1 := hth
  obtain ⟨R, hR⟩ : ∃ R, R = decide (cok x) := ⟨_, rfl⟩
  rw [← hR]
  have HR := hid hR
  have e1 : (x.kd == 1) = false := by rw [hk]; rfl
  have e5 : (x.kd == 5) = true := by rw [hk]; rfl
  have e2 : (x.kd == 2) = false := by rw [hk]; rfl
  have e3 : (x.kd == 3) = false := by rw [hk]; rfl
  have e4 : (x.kd == 4) = false := by rw [hk]; rfl
  have ka_kd := HS1.out.a.cell HPX.out.1
  have kb_kd := HS1.out.b.cell (cm_at HS1.out.y1 HS1.out.y2).1
  have kf_kd := HS1.out.b.frozen 0
  clear hs1 hth hxc hW1 honc hR B0
  have ka_kp := HS1.out.a.cell HPX.out.2.2.2.2.2.1
  have hs2 := HS1.out.set 0 (.int .i64 0) (cm_sets HS1.out.y1 HS1.out.y2 0 0#32).1 HS1.out.y1 HS1.out.y2
  have kb_34 := HS1.out.b.cell (cm_at HS1.out.y1 HS1.out.y2).2.2.2.2.2.1
  have kf_34 := HS1.out.b.frozen 34
  have hs3 := hs2.set 34 (.int .i64 0) (cm_sets hs2.y1 hs2.y2 0 0#32).2.2.2.2.2.1 hs2.y1 hs2.y2
  have hs3 : CkSt w x (y5 x) _ := hs3
  have HS3 := hid hs3
  clear hs2 hs3
  by_cases hz : x.kp = 0
  · have b0 : (x.kp == 0) = true := by simp [hz]
    have hzz := czero_any (y5 x) _ ⟨HS3.out.y1, HS3.out.y2, h.len, h.cap, h.max, ((h.see.below HS3.out.be).more HS3.out.be.size)⟩
    have RGZ := HS3.out.b.range 0 (cmc (y5 x)) (by rw [List.drop_zero, List.take_length])
    have HLZ := hid (cmc_len HS3.out.y1 HS3.out.y2)
    obtain ⟨yc, hyc⟩ : ∃ c, c = cmc (y5 x) := ⟨_, rfl⟩
    obtain ⟨zr, hzr⟩ : ∃ b, b = decide (cz (y5 x)) := ⟨_, rfl⟩
    rw [← hyc] at hzz RGZ HLZ
    rw [← hzr] at hzz
    have hHT : R = zr := by rw [HR.out, hzr]; exact decide_eq_decide.2 ((cok_5 hk).trans ⟨fun z => z.2, fun z => ⟨⟨by omega, by omega⟩, z⟩⟩)
    have HZZ := hid hzz
    have HT := hid hHT
    have HBE := hid HS3.out.be
    clear hzz hyc hzr hHT
    clear hk
    go_enter Try.func19, Try.ntmps19
    go_wp2_with (first
      | (refine wpList_load_mid rfl 32 (.tmp 1) rfl w.heap.size 0 rfl xc _ RG0 huc rfl (by rw [HLC.out]; exact info_cm) ?_
         simp only [pq4])
      | (refine wpList_store_asC rfl 32 (.tmp 3) (.tmp 5) rfl (w.heap.size + 1) 0 xc.toArray rfl rfl (by simpa [HLC.out] using TH1) (by simpa [HLC.out] using info_cm) HON.out W1 HW1.out ?_)
      | (refine wpList_load_g (by rfl) 32 (.tmp 3) rfl (w.heap.size + 1) 0 rfl yc _ RGZ huc rfl (by rw [HLZ.out]; exact info_cm) ?_; simp only [pq4])
      | fail)
    refine HZZ.out.mono ?_
    rintro e w9 ⟨rfl, hb9⟩
    have HB9 := hid (HBE.out.trans (hb9.mono HBE.out.size))
    clear hb9
    go_wp2_with fail
    go_ret
    exact ⟨by first | rfl | (rw [HT.out]; rfl), HB9.out⟩
  have b0 : (x.kp == 0) = false := by simp [hz]
  by_cases hq : 1 ≤ x.kp ∧ x.kp ≤ 1099511627776
  · have HAK : Hid (∀ wx : World, Calls Try.prog 43 #[.int .i64 x.kp] wx fun e w' => e = .returned (.bool true) ∧ wx = w') := hid (fun wx => by
      have h0 := cabove_any x.kp wx
      rwa [decide_eq_true hq] at h0)
    have hzz := czero_any (y5 x) _ ⟨HS3.out.y1, HS3.out.y2, h.len, h.cap, h.max, ((h.see.below HS3.out.be).more HS3.out.be.size)⟩
    have RGZ := HS3.out.b.range 0 (cmc (y5 x)) (by rw [List.drop_zero, List.take_length])
    have HLZ := hid (cmc_len HS3.out.y1 HS3.out.y2)
    obtain ⟨yc, hyc⟩ : ∃ c, c = cmc (y5 x) := ⟨_, rfl⟩
    obtain ⟨zr, hzr⟩ : ∃ b, b = decide (cz (y5 x)) := ⟨_, rfl⟩
    rw [← hyc] at hzz RGZ HLZ
    rw [← hzr] at hzz
    have hHT : R = zr := by rw [HR.out, hzr]; exact decide_eq_decide.2 ((cok_5 hk).trans ⟨fun z => z.2, fun z => ⟨⟨by omega, by omega⟩, z⟩⟩)
    have HZZ := hid hzz
    have HT := hid hHT
    have HBE := hid HS3.out.be
    clear hzz hyc hzr hHT
    clear hk
    go_enter Try.func19, Try.ntmps19
    go_wp2_with (first
      | (refine wpList_load_mid rfl 32 (.tmp 1) rfl w.heap.size 0 rfl xc _ RG0 huc rfl (by rw [HLC.out]; exact info_cm) ?_
         simp only [pq4])
      | (refine wpList_store_asC rfl 32 (.tmp 3) (.tmp 5) rfl (w.heap.size + 1) 0 xc.toArray rfl rfl (by simpa [HLC.out] using TH1) (by simpa [HLC.out] using info_cm) HON.out W1 HW1.out ?_)
      | fail)
    refine (HAK.out _).mono ?_
    rintro e wq ⟨rfl, rfl⟩
    go_wp2_with (first
      | (refine wpList_load_g (by rfl) 32 (.tmp 3) rfl (w.heap.size + 1) 0 rfl yc _ RGZ huc rfl (by rw [HLZ.out]; exact info_cm) ?_; simp only [pq4])
      | fail)
    refine HZZ.out.mono ?_
    rintro e w9 ⟨rfl, hb9⟩
    have HB9 := hid (HBE.out.trans (hb9.mono HBE.out.size))
    clear hb9
    go_wp2_with fail
    go_ret
    exact ⟨by first | rfl | (rw [HT.out]; rfl), HB9.out⟩
  · have HAK : Hid (∀ wx : World, Calls Try.prog 43 #[.int .i64 x.kp] wx fun e w' => e = .returned (.bool false) ∧ wx = w') := hid (fun wx => by
      have h0 := cabove_any x.kp wx
      rwa [decide_eq_false hq] at h0)
    have hHT : R = false := by rw [HR.out]; exact decide_eq_false (fun z => hq (by have := ((cok_5 hk).1 z).1; omega))
    have HT := hid hHT
    clear hHT
    have HBE := hid HS3.out.be
    clear hk
    go_enter Try.func19, Try.ntmps19
    go_wp2_with (first
      | (refine wpList_load_mid rfl 32 (.tmp 1) rfl w.heap.size 0 rfl xc _ RG0 huc rfl (by rw [HLC.out]; exact info_cm) ?_
         simp only [pq4])
      | (refine wpList_store_asC rfl 32 (.tmp 3) (.tmp 5) rfl (w.heap.size + 1) 0 xc.toArray rfl rfl (by simpa [HLC.out] using TH1) (by simpa [HLC.out] using info_cm) HON.out W1 HW1.out ?_)
      | fail)
    refine (HAK.out _).mono ?_
    rintro e wq ⟨rfl, rfl⟩
    go_wp2_with fail
    go_ret
    exact ⟨by first | rfl | (rw [HT.out]; rfl), HBE.out⟩
theorem ccheck_any (x : Cm) (w : World) (h : okCm w x) :
    Calls Try.prog 19 #[.agg (cmc x).toArray] w fun e w' => e = .returned (.bool (decide (cok x))) ∧ Below w.heap.size w w' := by
  by_cases h1 : x.kd = 1
  · exact ccheck_1 x w h h1
  by_cases h2 : x.kd = 2
  · exact ccheck_2 x w h h2
  by_cases h3 : x.kd = 3
  · exact ccheck_3 x w h h3
  by_cases h4 : x.kd = 4
  · exact ccheck_4 x w h h4
  by_cases h5 : x.kd = 5
  · exact ccheck_5 x w h h5
  · exact ccheck_0 x w h (by simp [h1, h2, h3, h4, h5])
def q1 (x : Cm) : Cm := { y1 x with kd := x.kd }
def q5 (x : Cm) : Cm := { y5 x with kd := x.kd }
def q4 (x : Cm) : Cm := { y4 x with kd := x.kd }
def q2 (x : Cm) : Cm := { y2 x with kd := x.kd }
def q3 (x : Cm) : Cm := { y3 x with kd := x.kd }
theorem cok_n {x : Cm} (h1 : ¬ x.kd = 1) (h5 : ¬ x.kd = 5) (z : cok x) : (0 ≤ x.dv ∧ x.dv < 6) ∧ (1 ≤ x.rq ∧ x.rq ≤ 1099511627776) := by
  have a := z.2.2.2.1 (by have := z.1; omega)
  exact ⟨a.1, a.2.1⟩
theorem rccheck_1a (x : Cm) (w : World) (h : okCm w x) (hk : x.kd = 1) (z : ¬ (cz (y1 x))) :
    Calls Try.prog 15 #[.agg (cmc x).toArray] w fun e w' => e = .returned (.bool (decide (cok x))) ∧ Below w.heap.size w w' := by
  have hue := Try.underlying29
  have hup := Try.underlying27
  have huc := Try.underlying32
  obtain ⟨hs1, hth⟩ := CkSt.new w x h.e8 h.p8
  have B0 := Blk.new w (cmc x) 32
  have RG0 := B0.range 0 (cmc x) (by rw [List.drop_zero, List.take_length])
  have honc := all_oneCell_toArray (cmc_one x)
  have HLC := hid (cmc_len h.e8 h.p8)
  have HPX := hid (cm_at h.e8 h.p8)
  obtain ⟨xc, hxc⟩ : ∃ c, c = cmc x := ⟨_, rfl⟩
  obtain ⟨W1, hW1⟩ : ∃ W1, W1 = ((w.alloc (.cells (cmc x).toArray 32)).alloc (.cells zA63 32)).setCells (w.heap.size + 1) 0 (cmc x) := ⟨_, rfl⟩
  rw [← hW1] at hs1
  rw [← hxc] at hW1 RG0 honc HLC hth ⊢
  have HS1 := hid hs1
  have HW1 := hid hW1
  have HON := hid honc
  have TH1 := hth
  obtain ⟨R, hR⟩ : ∃ R, R = decide (cok x) := ⟨_, rfl⟩
  rw [← hR]
  have HR := hid hR
  have e1 : (x.kd == 1) = true := by rw [hk]; rfl
  have e5 : (x.kd == 5) = false := by rw [hk]; rfl
  have e2 : (x.kd == 2) = false := by rw [hk]; rfl
  have e3 : (x.kd == 3) = false := by rw [hk]; rfl
  have e4 : (x.kd == 4) = false := by rw [hk]; rfl
  have ka_kd := HS1.out.a.cell HPX.out.1
  clear hs1 hth hxc hW1 honc hR B0
  have hs2 := HS1.out.setE
  have THE := HS1.out.b.there 1 29 (by rw [cmc_len HS1.out.y1 HS1.out.y2]; omega)
  obtain ⟨W2, hW2⟩ : ∃ W, W = W1.setCells (w.heap.size + 1) 1 (ecells 0 0 0 0 0 zeros) := ⟨_, rfl⟩
  rw [← hW2] at hs2
  have hs2 : CkSt w x (q1 x) W2 := hs2
  have HS2 := hid hs2
  have HW2 := hid hW2
  have HONE := hid (all_oneCell_toArray (ecells_one 0 0 0 0 0 zeros))
  clear hs2 hW2
  have hzz := rczero_any (q1 x) W2 ⟨HS2.out.y1, HS2.out.y2, h.len, h.cap, h.max, ((h.see.below HS2.out.be).more HS2.out.be.size)⟩
  have RGZ := HS2.out.b.range 0 (cmc (q1 x)) (by rw [List.drop_zero, List.take_length])
  have HLZ := hid (cmc_len HS2.out.y1 HS2.out.y2)
  rw [decide_eq_false (show ¬ cz (q1 x) from z)] at hzz
  obtain ⟨yc, hyc⟩ : ∃ c, c = cmc (q1 x) := ⟨_, rfl⟩
  rw [← hyc] at hzz RGZ HLZ
  have HZZ := hid hzz
  clear hzz hyc
  have hHT : R = false := by rw [HR.out]; exact decide_eq_false (fun k => z ((cok_1 hk).1 k).2)
  have HT := hid hHT
  clear hHT
  go_enter Try.func15, Try.ntmps15
  go_wp2_with (first
    | (refine wpList_load_mid rfl 32 (.tmp 1) rfl w.heap.size 0 rfl xc _ RG0 huc rfl (by rw [HLC.out]; exact info_cm) ?_
       simp only [pq4])
    | (refine wpList_store_asC rfl 32 (.tmp 3) (.tmp 4) rfl (w.heap.size + 1) 0 xc.toArray rfl rfl (by simpa [HLC.out] using TH1) (by simpa [HLC.out] using info_cm) HON.out W1 HW1.out ?_)
    | (refine wpList_store_asC rfl 29 (.tmp 10) (.tmp 9) rfl (w.heap.size + 1) 1 (ecells 0 0 0 0 0 zeros).toArray rfl rfl THE info_edit HONE.out W2 HW2.out ?_)
    | (refine wpList_load_mid rfl 32 (.tmp 3) rfl (w.heap.size + 1) 0 rfl yc _ RGZ huc rfl (by rw [HLZ.out]; exact info_cm) ?_; simp only [pq4])
    | fail)
  refine HZZ.out.mono ?_
  rintro e wz ⟨rfl, hbz⟩
  have HBE := hid (HS2.out.later hbz).be
  clear hbz
  go_wp2_with fail
  go_ret
  exact ⟨by first | rfl | (rw [HT.out]; rfl), HBE.out⟩
theorem rccheck_1b (x : Cm) (w : World) (h : okCm w x) (hk : x.kd = 1) (z : cz (y1 x)) (he : ¬ (echk x.ek x.eid x.eg x.em (x.el.toNat : Int) x.ef = 0)) :
    Calls Try.prog 15 #[.agg (cmc x).toArray] w fun e w' => e = .returned (.bool (decide (cok x))) ∧ Below w.heap.size w w' := by
  have hue := Try.underlying29
  have hup := Try.underlying27
  have huc := Try.underlying32
  obtain ⟨hs1, hth⟩ := CkSt.new w x h.e8 h.p8
  have B0 := Blk.new w (cmc x) 32
  have RG0 := B0.range 0 (cmc x) (by rw [List.drop_zero, List.take_length])
  have honc := all_oneCell_toArray (cmc_one x)
  have HLC := hid (cmc_len h.e8 h.p8)
  have HPX := hid (cm_at h.e8 h.p8)
  obtain ⟨xc, hxc⟩ : ∃ c, c = cmc x := ⟨_, rfl⟩
  obtain ⟨W1, hW1⟩ : ∃ W1, W1 = ((w.alloc (.cells (cmc x).toArray 32)).alloc (.cells zA63 32)).setCells (w.heap.size + 1) 0 (cmc x) := ⟨_, rfl⟩
  rw [← hW1] at hs1
  rw [← hxc] at hW1 RG0 honc HLC hth ⊢
  have HS1 := hid hs1
  have HW1 := hid hW1
  have HON := hid honc
  have TH1 := hth
  obtain ⟨R, hR⟩ : ∃ R, R = decide (cok x) := ⟨_, rfl⟩
  rw [← hR]
  have HR := hid hR
  have e1 : (x.kd == 1) = true := by rw [hk]; rfl
  have e5 : (x.kd == 5) = false := by rw [hk]; rfl
  have e2 : (x.kd == 2) = false := by rw [hk]; rfl
  have e3 : (x.kd == 3) = false := by rw [hk]; rfl
  have e4 : (x.kd == 4) = false := by rw [hk]; rfl
  have ka_kd := HS1.out.a.cell HPX.out.1
  clear hs1 hth hxc hW1 honc hR B0
  have hs2 := HS1.out.setE
  have THE := HS1.out.b.there 1 29 (by rw [cmc_len HS1.out.y1 HS1.out.y2]; omega)
  obtain ⟨W2, hW2⟩ : ∃ W, W = W1.setCells (w.heap.size + 1) 1 (ecells 0 0 0 0 0 zeros) := ⟨_, rfl⟩
  rw [← hW2] at hs2
  have hs2 : CkSt w x (q1 x) W2 := hs2
  have HS2 := hid hs2
  have HW2 := hid hW2
  have HONE := hid (all_oneCell_toArray (ecells_one 0 0 0 0 0 zeros))
  clear hs2 hW2
  have hzz := rczero_any (q1 x) W2 ⟨HS2.out.y1, HS2.out.y2, h.len, h.cap, h.max, ((h.see.below HS2.out.be).more HS2.out.be.size)⟩
  have RGZ := HS2.out.b.range 0 (cmc (q1 x)) (by rw [List.drop_zero, List.take_length])
  have HLZ := hid (cmc_len HS2.out.y1 HS2.out.y2)
  rw [decide_eq_true (show cz (q1 x) from z)] at hzz
  obtain ⟨yc, hyc⟩ : ∃ c, c = cmc (q1 x) := ⟨_, rfl⟩
  rw [← hyc] at hzz RGZ HLZ
  have HZZ := hid hzz
  clear hzz hyc
  have HEC : Hid (∀ wx : World, Calls Try.prog 37 #[.agg (cmE x).toArray] wx fun e w' => e = .returned (.int .i64 (echk x.ek x.eid x.eg x.em (x.el.toNat : Int) x.ef)) ∧ Below wx.heap.size wx w') := hid (fun wx => recheck_any x.ek x.eid x.eg (x.el.toNat : Int) x.em x.ef wx h.e8)
  have HEL := hid (cmE_len h.e8)
  obtain ⟨ie, hie⟩ : ∃ c, c = echk x.ek x.eid x.eg x.em (x.el.toNat : Int) x.ef := ⟨_, rfl⟩
  rw [← hie] at HEC
  have HIE := hid hie
  clear hie
  have b0 : (ie == 0) = false := by rw [HIE.out]; simp [he]
  have hHT : R = false := by rw [HR.out]; exact decide_eq_false (fun k => he ((cok_1 hk).1 k).1)
  have HT := hid hHT
  clear hHT
  clear hk he z
  go_enter Try.func15, Try.ntmps15
  go_wp2_with (first
    | (refine wpList_load_mid rfl 32 (.tmp 1) rfl w.heap.size 0 rfl xc _ RG0 huc rfl (by rw [HLC.out]; exact info_cm) ?_
       simp only [pq4])
    | (refine wpList_store_asC rfl 32 (.tmp 3) (.tmp 4) rfl (w.heap.size + 1) 0 xc.toArray rfl rfl (by simpa [HLC.out] using TH1) (by simpa [HLC.out] using info_cm) HON.out W1 HW1.out ?_)
    | (refine wpList_store_asC rfl 29 (.tmp 10) (.tmp 9) rfl (w.heap.size + 1) 1 (ecells 0 0 0 0 0 zeros).toArray rfl rfl THE info_edit HONE.out W2 HW2.out ?_)
    | (refine wpList_load_mid rfl 32 (.tmp 3) rfl (w.heap.size + 1) 0 rfl yc _ RGZ huc rfl (by rw [HLZ.out]; exact info_cm) ?_; simp only [pq4])
    | fail)
  refine HZZ.out.mono ?_
  rintro e wz ⟨rfl, hbz⟩
  have HSZ := hid (HS2.out.later hbz)
  have RE := HSZ.out.a.range 1 (cmE x) (cm_edit h.e8 h.p8)
  obtain ⟨xe, hxe⟩ : ∃ c, c = cmE x := ⟨_, rfl⟩
  rw [← hxe] at HEC HEL RE
  clear hbz hxe
  go_wp2_with (first
    | (refine wpList_load_g (by rfl) 29 (.tmp 14) rfl w.heap.size 1 rfl xe _ RE hue rfl (by rw [HEL.out]; exact info_edit) ?_; simp only [pq4])
    | fail)
  refine (HEC.out _).mono ?_
  rintro e w3 ⟨rfl, hb3⟩
  have HBE := hid (HSZ.out.later hb3).be
  clear hb3
  go_wp2_with fail
  go_ret
  exact ⟨by first | rfl | (rw [HT.out]; rfl), HBE.out⟩
theorem rccheck_1c (x : Cm) (w : World) (h : okCm w x) (hk : x.kd = 1) (z : cz (y1 x)) (he : echk x.ek x.eid x.eg x.em (x.el.toNat : Int) x.ef = 0) :
    Calls Try.prog 15 #[.agg (cmc x).toArray] w fun e w' => e = .returned (.bool (decide (cok x))) ∧ Below w.heap.size w w' := by
  have hue := Try.underlying29
  have hup := Try.underlying27
  have huc := Try.underlying32
  obtain ⟨hs1, hth⟩ := CkSt.new w x h.e8 h.p8
  have B0 := Blk.new w (cmc x) 32
  have RG0 := B0.range 0 (cmc x) (by rw [List.drop_zero, List.take_length])
  have honc := all_oneCell_toArray (cmc_one x)
  have HLC := hid (cmc_len h.e8 h.p8)
  have HPX := hid (cm_at h.e8 h.p8)
  obtain ⟨xc, hxc⟩ : ∃ c, c = cmc x := ⟨_, rfl⟩
  obtain ⟨W1, hW1⟩ : ∃ W1, W1 = ((w.alloc (.cells (cmc x).toArray 32)).alloc (.cells zA63 32)).setCells (w.heap.size + 1) 0 (cmc x) := ⟨_, rfl⟩
  rw [← hW1] at hs1
  rw [← hxc] at hW1 RG0 honc HLC hth ⊢
  have HS1 := hid hs1
  have HW1 := hid hW1
  have HON := hid honc
  have TH1 := hth
  obtain ⟨R, hR⟩ : ∃ R, R = decide (cok x) := ⟨_, rfl⟩
  rw [← hR]
  have HR := hid hR
  have e1 : (x.kd == 1) = true := by rw [hk]; rfl
  have e5 : (x.kd == 5) = false := by rw [hk]; rfl
  have e2 : (x.kd == 2) = false := by rw [hk]; rfl
  have e3 : (x.kd == 3) = false := by rw [hk]; rfl
  have e4 : (x.kd == 4) = false := by rw [hk]; rfl
  have ka_kd := HS1.out.a.cell HPX.out.1
  clear hs1 hth hxc hW1 honc hR B0
  have hs2 := HS1.out.setE
  have THE := HS1.out.b.there 1 29 (by rw [cmc_len HS1.out.y1 HS1.out.y2]; omega)
  obtain ⟨W2, hW2⟩ : ∃ W, W = W1.setCells (w.heap.size + 1) 1 (ecells 0 0 0 0 0 zeros) := ⟨_, rfl⟩
  rw [← hW2] at hs2
  have hs2 : CkSt w x (q1 x) W2 := hs2
  have HS2 := hid hs2
  have HW2 := hid hW2
  have HONE := hid (all_oneCell_toArray (ecells_one 0 0 0 0 0 zeros))
  clear hs2 hW2
  have hzz := rczero_any (q1 x) W2 ⟨HS2.out.y1, HS2.out.y2, h.len, h.cap, h.max, ((h.see.below HS2.out.be).more HS2.out.be.size)⟩
  have RGZ := HS2.out.b.range 0 (cmc (q1 x)) (by rw [List.drop_zero, List.take_length])
  have HLZ := hid (cmc_len HS2.out.y1 HS2.out.y2)
  rw [decide_eq_true (show cz (q1 x) from z)] at hzz
  obtain ⟨yc, hyc⟩ : ∃ c, c = cmc (q1 x) := ⟨_, rfl⟩
  rw [← hyc] at hzz RGZ HLZ
  have HZZ := hid hzz
  clear hzz hyc
  have HEC : Hid (∀ wx : World, Calls Try.prog 37 #[.agg (cmE x).toArray] wx fun e w' => e = .returned (.int .i64 (echk x.ek x.eid x.eg x.em (x.el.toNat : Int) x.ef)) ∧ Below wx.heap.size wx w') := hid (fun wx => recheck_any x.ek x.eid x.eg (x.el.toNat : Int) x.em x.ef wx h.e8)
  have HEL := hid (cmE_len h.e8)
  obtain ⟨ie, hie⟩ : ∃ c, c = echk x.ek x.eid x.eg x.em (x.el.toNat : Int) x.ef := ⟨_, rfl⟩
  rw [← hie] at HEC
  have HIE := hid hie
  clear hie
  have b0 : (ie == 0) = true := by rw [HIE.out]; simp [he]
  have hHT : R = true := by rw [HR.out]; exact decide_eq_true ((cok_1 hk).2 ⟨he, z⟩)
  have HT := hid hHT
  clear hHT
  clear hk he z
  go_enter Try.func15, Try.ntmps15
  go_wp2_with (first
    | (refine wpList_load_mid rfl 32 (.tmp 1) rfl w.heap.size 0 rfl xc _ RG0 huc rfl (by rw [HLC.out]; exact info_cm) ?_
       simp only [pq4])
    | (refine wpList_store_asC rfl 32 (.tmp 3) (.tmp 4) rfl (w.heap.size + 1) 0 xc.toArray rfl rfl (by simpa [HLC.out] using TH1) (by simpa [HLC.out] using info_cm) HON.out W1 HW1.out ?_)
    | (refine wpList_store_asC rfl 29 (.tmp 10) (.tmp 9) rfl (w.heap.size + 1) 1 (ecells 0 0 0 0 0 zeros).toArray rfl rfl THE info_edit HONE.out W2 HW2.out ?_)
    | (refine wpList_load_mid rfl 32 (.tmp 3) rfl (w.heap.size + 1) 0 rfl yc _ RGZ huc rfl (by rw [HLZ.out]; exact info_cm) ?_; simp only [pq4])
    | fail)
  refine HZZ.out.mono ?_
  rintro e wz ⟨rfl, hbz⟩
  have HSZ := hid (HS2.out.later hbz)
  have RE := HSZ.out.a.range 1 (cmE x) (cm_edit h.e8 h.p8)
  obtain ⟨xe, hxe⟩ : ∃ c, c = cmE x := ⟨_, rfl⟩
  rw [← hxe] at HEC HEL RE
  clear hbz hxe
  go_wp2_with (first
    | (refine wpList_load_g (by rfl) 29 (.tmp 14) rfl w.heap.size 1 rfl xe _ RE hue rfl (by rw [HEL.out]; exact info_edit) ?_; simp only [pq4])
    | fail)
  refine (HEC.out _).mono ?_
  rintro e w3 ⟨rfl, hb3⟩
  have HBE := hid (HSZ.out.later hb3).be
  clear hb3
  go_wp2_with fail
  go_ret
  exact ⟨by first | rfl | (rw [HT.out]; rfl), HBE.out⟩
theorem rccheck_5a (x : Cm) (w : World) (h : okCm w x) (hk : x.kd = 5) (z : ¬ (cz (y5 x))) :
    Calls Try.prog 15 #[.agg (cmc x).toArray] w fun e w' => e = .returned (.bool (decide (cok x))) ∧ Below w.heap.size w w' := by
  have hue := Try.underlying29
  have hup := Try.underlying27
  have huc := Try.underlying32
  obtain ⟨hs1, hth⟩ := CkSt.new w x h.e8 h.p8
  have B0 := Blk.new w (cmc x) 32
  have RG0 := B0.range 0 (cmc x) (by rw [List.drop_zero, List.take_length])
  have honc := all_oneCell_toArray (cmc_one x)
  have HLC := hid (cmc_len h.e8 h.p8)
  have HPX := hid (cm_at h.e8 h.p8)
  obtain ⟨xc, hxc⟩ : ∃ c, c = cmc x := ⟨_, rfl⟩
  obtain ⟨W1, hW1⟩ : ∃ W1, W1 = ((w.alloc (.cells (cmc x).toArray 32)).alloc (.cells zA63 32)).setCells (w.heap.size + 1) 0 (cmc x) := ⟨_, rfl⟩
  rw [← hW1] at hs1
  rw [← hxc] at hW1 RG0 honc HLC hth ⊢
  have HS1 := hid hs1
  have HW1 := hid hW1
  have HON := hid honc
  have TH1 := hth
  obtain ⟨R, hR⟩ : ∃ R, R = decide (cok x) := ⟨_, rfl⟩
  rw [← hR]
  have HR := hid hR
  have e1 : (x.kd == 1) = false := by rw [hk]; rfl
  have e5 : (x.kd == 5) = true := by rw [hk]; rfl
  have e2 : (x.kd == 2) = false := by rw [hk]; rfl
  have e3 : (x.kd == 3) = false := by rw [hk]; rfl
  have e4 : (x.kd == 4) = false := by rw [hk]; rfl
  have ka_kd := HS1.out.a.cell HPX.out.1
  clear hs1 hth hxc hW1 honc hR B0
  have HS2 := HS1.out.set 34 (.int .i64 0) (cm_sets HS1.out.y1 HS1.out.y2 0 0#32).2.2.2.2.2.1 HS1.out.y1 HS1.out.y2
  have HS2 : CkSt w x (q5 x) (W1.setCell ⟨w.heap.size + 1, 34, none⟩ (.int .i64 0)) := HS2
  obtain ⟨W2, hW2⟩ : ∃ W, W = W1.setCell ⟨w.heap.size + 1, 34, none⟩ (.int .i64 0) := ⟨_, rfl⟩
  rw [← hW2] at HS2
  have C34 := hid (HS1.out.b.cell (cm_at HS1.out.y1 HS1.out.y2).2.2.2.2.2.1)
  have F34 := hid (HS1.out.b.frozen 34)
  have HW2 := hid hW2
  have HS2 := hid HS2
  clear hW2
  have hzz := rczero_any (q5 x) W2 ⟨HS2.out.y1, HS2.out.y2, h.len, h.cap, h.max, ((h.see.below HS2.out.be).more HS2.out.be.size)⟩
  have RGZ := HS2.out.b.range 0 (cmc (q5 x)) (by rw [List.drop_zero, List.take_length])
  have HLZ := hid (cmc_len HS2.out.y1 HS2.out.y2)
  rw [decide_eq_false (show ¬ cz (q5 x) from z)] at hzz
  obtain ⟨yc, hyc⟩ : ∃ c, c = cmc (q5 x) := ⟨_, rfl⟩
  rw [← hyc] at hzz RGZ HLZ
  have HZZ := hid hzz
  clear hzz hyc
  have hHT : R = false := by rw [HR.out]; exact decide_eq_false (fun k => z ((cok_5 hk).1 k).2)
  have HT := hid hHT
  clear hHT
  clear hk
  go_enter Try.func15, Try.ntmps15
  go_wp2_with (first
    | (refine wpList_load_mid rfl 32 (.tmp 1) rfl w.heap.size 0 rfl xc _ RG0 huc rfl (by rw [HLC.out]; exact info_cm) ?_
       simp only [pq4])
    | (refine wpList_store_asC rfl 32 (.tmp 3) (.tmp 4) rfl (w.heap.size + 1) 0 xc.toArray rfl rfl (by simpa [HLC.out] using TH1) (by simpa [HLC.out] using info_cm) HON.out W1 HW1.out ?_)
    | (refine wpList_store_i rfl 3 (.tmp 21) (.const (.int .i64 0)) rfl (w.heap.size + 1) 34 .i64 0 rfl rfl _ info_i C34.out F34.out W2 HW2.out ?_)
    | (refine wpList_load_mid rfl 32 (.tmp 3) rfl (w.heap.size + 1) 0 rfl yc _ RGZ huc rfl (by rw [HLZ.out]; exact info_cm) ?_; simp only [pq4])
    | fail)
  refine HZZ.out.mono ?_
  rintro e wz ⟨rfl, hbz⟩
  have HSZ := hid (HS2.out.later hbz)
  have kz_34 := HSZ.out.a.cell HPX.out.2.2.2.2.2.1
  have HBE := hid HSZ.out.be
  clear hbz
  go_wp2_with fail
  go_ret
  exact ⟨by first | rfl | (rw [HT.out]; rfl), HBE.out⟩
end Go.Proofs.Ytnhcjadkbogioaa
