/- Commands: which may be, by the program: kind 3, f. -/
import Derived.Test.YtnhcjadkbogioaaGreatM16
import Derived.Test.YtnhcjadkbogioaaGreatM17
import Derived.Test.YtnhcjadkbogioaaGreatM5
import Derived.Test.YtnhcjadkbogioaaGreatM15
import Derived.WalkKit
import Derived.WalkLawsBesides
import Derived.Lib.IndexMore
import Derived.Test.YtnhcjadkbogioaaGreatM4
import Derived.Test.YtnhcjadkbogioaaGreatM3
import Derived.Test.YtnhcjadkbogioaaGreatM10
import Derived.Test.YtnhcjadkbogioaaGreatM13
import Derived.Test.YtnhcjadkbogioaaGreatM8
import Derived.Test.YtnhcjadkbogioaaGreatM9
set_option maxRecDepth 100000
set_option linter.unusedVariables false
set_option linter.unusedSimpArgs false
set_option maxHeartbeats 6400000
namespace Go.Proofs.YtnhcjadkbogioaaGreat
open Go Go.RowKit OctM
theorem ccheck_3f (x : Cm) (w : World) (h : okCm w x) (hk : x.kd = 3) (hg : 0 ≤ x.dv) (hl : x.dv < 6) (hq : 1 ≤ x.rq ∧ x.rq ≤ 1099511627776) (hp : lchk x.f = 0) (hm : x.ms.toNat ≤ 511) :
    Calls Tryz.prog 18 #[.agg (cmc x).toArray] w fun e w' => e = .returned (.bool (decide (cok x))) ∧ Below w.heap.size w w' := by
  have hue := Tryz.underlying38
  have hup := Tryz.underlying36
  have huc := Tryz.underlying41
  obtain ⟨hs1, hth⟩ := CkSt.new w x h.e8 h.p8
  have B0 := Blk.new w (cmc x) 41
  have RG0 := B0.range 0 (cmc x) (by rw [List.drop_zero, List.take_length])
  have honc := all_oneCell_toArray (cmc_one x)
  have HLC := hid (cmc_len h.e8 h.p8)
  have HPX := hid (cm_at h.e8 h.p8)
  obtain ⟨xc, hxc⟩ : ∃ c, c = cmc x := ⟨_, rfl⟩
  obtain ⟨W1, hW1⟩ : ∃ W1, W1 = ((w.alloc (.cells (cmc x).toArray 41)).alloc (.cells zA63 41)).setCells (w.heap.size + 1) 0 (cmc x) := ⟨_, rfl⟩
  rw [← hW1] at hs1
  rw [← hxc] at hW1 RG0 honc HLC hth ⊢
  have HS1 := hid hs1
  have HW1 := hid hW1
  have HON := hid honc
  have TH1 := hth
  obtain ⟨R, hR⟩ : ∃ R, R = decide (cok x) := ⟨_, rfl⟩
  rw [← hR]
  have HR := hid hR
  have e1 : (x.kd == 1) = false := by rw [hk]; rfl
  have e5 : (x.kd == 5) = false := by rw [hk]; rfl
  have e2 : (x.kd == 2) = false := by rw [hk]; rfl
  have e3 : (x.kd == 3) = true := by rw [hk]; rfl
  have e4 : (x.kd == 4) = false := by rw [hk]; rfl
  have ka_kd := HS1.out.a.cell HPX.out.1
  have kb_kd := HS1.out.b.cell (cm_at HS1.out.y1 HS1.out.y2).1
  have kf_kd := HS1.out.b.frozen 0
  clear hs1 hth hxc hW1 honc hR B0
  clear ka_kd kb_kd kf_kd
  have S2 := HS1.out.set 0 (.int .i64 0) (cm_sets HS1.out.y1 HS1.out.y2 0 0#32).1 HS1.out.y1 HS1.out.y2
  have S2 : CkSt w x _ (W1.setCell ⟨w.heap.size + 1, 0, none⟩ (.int .i64 0)) := S2
  obtain ⟨W2, hW2⟩ : ∃ W, W = W1.setCell ⟨w.heap.size + 1, 0, none⟩ (.int .i64 0) := ⟨_, rfl⟩
  rw [← hW2] at S2
  have C0 := hid (HS1.out.b.cell (cm_at HS1.out.y1 HS1.out.y2).1)
  have F0 := hid (HS1.out.b.frozen 0)
  have HW2 := hid hW2
  have S2 := hid S2
  clear hW2
  have S3 := S2.out.set 30 (.int .i64 0) (cm_sets S2.out.y1 S2.out.y2 0 0#32).2.1 S2.out.y1 S2.out.y2
  have S3 : CkSt w x _ (W2.setCell ⟨w.heap.size + 1, 30, none⟩ (.int .i64 0)) := S3
  obtain ⟨W3, hW3⟩ : ∃ W, W = W2.setCell ⟨w.heap.size + 1, 30, none⟩ (.int .i64 0) := ⟨_, rfl⟩
  rw [← hW3] at S3
  have C30 := hid (S2.out.b.cell (cm_at S2.out.y1 S2.out.y2).2.1)
  have F30 := hid (S2.out.b.frozen 30)
  have HW3 := hid hW3
  have S3 := hid S3
  clear hW3
  have HS4 := S3.out.set 31 (.int .i64 0) (cm_sets S3.out.y1 S3.out.y2 0 0#32).2.2.1 S3.out.y1 S3.out.y2
  have HS4 : CkSt w x (y4 x) (W3.setCell ⟨w.heap.size + 1, 31, none⟩ (.int .i64 0)) := HS4
  obtain ⟨W4, hW4⟩ : ∃ W, W = W3.setCell ⟨w.heap.size + 1, 31, none⟩ (.int .i64 0) := ⟨_, rfl⟩
  rw [← hW4] at HS4
  have C31 := hid (S3.out.b.cell (cm_at S3.out.y1 S3.out.y2).2.2.1)
  have F31 := hid (S3.out.b.frozen 31)
  have HW4 := hid hW4
  have HS4 := hid HS4
  clear hW4
  have ka_kd := S2.out.a.cell HPX.out.1
  have ka_30 := S2.out.a.cell HPX.out.2.1
  have ka_31 := S2.out.a.cell HPX.out.2.2.1
  have kd_kd := HS4.out.a.cell HPX.out.1
  have bg : decide (0 ≤ x.dv) = true := by simp [hg]
  have bl : decide (x.dv < 6) = true := by simp [hl]
  have HAQ : Hid (∀ wx : World, Calls Tryz.prog 43 #[.int .i64 x.rq] wx fun e w' => e = .returned (.bool true) ∧ wx = w') := Lib.hid (fun wx => by
    have h0 := cabove_any x.rq wx
    rwa [decide_eq_true hq] at h0)
  have ka_61 := HS4.out.a.cell HPX.out.2.2.2.2.2.2.1
  have HLK : Hid (∀ wx : World, Below w.heap.size w wx → Calls Tryz.prog 45 #[.slice x.A x.n x.c] wx fun e w' => e = .returned (.int .i64 (lchk x.f)) ∧ Below wx.heap.size wx w') := hid (fun wx hb => lcheck_any x.A x.n x.c x.f wx h.len ((h.see.below hb).more hb.size))
  obtain ⟨ip, hip⟩ : ∃ c, c = lchk x.f := ⟨_, rfl⟩
  rw [← hip] at HLK
  have HIP := hid hip
  clear hip
  have b0 : (ip == 0) = true := by rw [HIP.out]; simp [hp]
  have HMK : Hid (∀ wx : World, Calls Tryz.prog 46 #[.int .u32 (x.ms.toNat : Int)] wx fun e w' => e = .returned (.bool true) ∧ wx = w') := Lib.hid (fun wx => by
    have h0 := mcheck_any x.ms wx
    rwa [decide_eq_true hm] at h0)
  go_enter Tryz.func18, Tryz.ntmps18
  go_wp2_with (first
    | (refine wpList_load_mid rfl 41 (.tmp 1) rfl w.heap.size 0 rfl xc _ RG0 huc rfl (by rw [HLC.out]; exact info_cm) ?_
       simp only [pq4])
    | (refine wpList_store_asC rfl 41 (.tmp 3) (.tmp 5) rfl (w.heap.size + 1) 0 xc.toArray rfl rfl (by simpa [HLC.out] using TH1) (by simpa [HLC.out] using info_cm) HON.out W1 HW1.out ?_)
    | (refine wpList_store_i rfl 3 (.tmp 6) (.const (.int .i64 0)) rfl (w.heap.size + 1) 0 .i64 0 rfl rfl _ info_i C0.out F0.out W2 HW2.out ?_)
    | fail)
  refine (HAQ.out _).mono ?_
  rintro e wq ⟨rfl, rfl⟩
  go_wp2_with (first
    | (refine wpList_store_i rfl 3 (.tmp 45) (.const (.int .i64 0)) rfl (w.heap.size + 1) 30 .i64 0 rfl rfl _ info_i C30.out F30.out W3 HW3.out ?_)
    | (refine wpList_store_i rfl 3 (.tmp 46) (.const (.int .i64 0)) rfl (w.heap.size + 1) 31 .i64 0 rfl rfl _ info_i C31.out F31.out W4 HW4.out ?_)
    | fail)
  refine (HLK.out _ HS4.out.be).mono ?_
  rintro e w5 ⟨rfl, hb5⟩
  have HS5 := hid (HS4.out.later hb5)
  have ka_62b := HS5.out.a.cell HPX.out.2.2.2.2.2.2.2
  clear kd_kd ka_kd ka_30 ka_31 hb5
  have S5 := HS5.out.set 61 (.slice none 0 0) (cm_sets HS5.out.y1 HS5.out.y2 0 0#32).2.2.2.2.2.2.1 HS5.out.y1 HS5.out.y2
  have S5 : CkSt w x _ (w5.setCell ⟨w.heap.size + 1, 61, none⟩ (.slice none 0 0)) := S5
  obtain ⟨W5, hW5⟩ : ∃ W, W = w5.setCell ⟨w.heap.size + 1, 61, none⟩ (.slice none 0 0) := ⟨_, rfl⟩
  rw [← hW5] at S5
  have C61 := hid (HS5.out.b.cell (cm_at HS5.out.y1 HS5.out.y2).2.2.2.2.2.2.1)
  have F61 := hid (HS5.out.b.frozen 61)
  have HW5 := hid hW5
  have S5 := hid S5
  clear hW5
  have HS6 := S5.out.set 62 (.int .u32 ((0#32 : BitVec 32).toNat : Int)) (cm_sets S5.out.y1 S5.out.y2 0 0#32).2.2.2.2.2.2.2 S5.out.y1 S5.out.y2
  have HS6 : CkSt w x (y3 x) (W5.setCell ⟨w.heap.size + 1, 62, none⟩ (.int .u32 0)) := HS6
  obtain ⟨W6, hW6⟩ : ∃ W, W = W5.setCell ⟨w.heap.size + 1, 62, none⟩ (.int .u32 0) := ⟨_, rfl⟩
  rw [← hW6] at HS6
  have C62 := hid (S5.out.b.cell (cm_at S5.out.y1 S5.out.y2).2.2.2.2.2.2.2)
  have F62 := hid (S5.out.b.frozen 62)
  have HW6 := hid hW6
  have HS6 := hid HS6
  clear hW6
  have hzz := czero_any (y3 x) W6 ⟨HS6.out.y1, HS6.out.y2, rfl, Nat.le_refl 0, Nat.zero_le _, fun hp => absurd hp (Nat.lt_irrefl 0)⟩
  have RGZ := HS6.out.b.range 0 (cmc (y3 x)) (by rw [List.drop_zero, List.take_length])
  have HLZ := hid (cmc_len HS6.out.y1 HS6.out.y2)
  obtain ⟨yc, hyc⟩ : ∃ c, c = cmc (y3 x) := ⟨_, rfl⟩
  obtain ⟨zr, hzr⟩ : ∃ b, b = decide (cz (y3 x)) := ⟨_, rfl⟩
  rw [← hyc] at hzz RGZ HLZ
  rw [← hzr] at hzz
  have hHT : R = zr := by rw [HR.out, hzr]; exact decide_eq_decide.2 ((cok_3 hk).trans ⟨fun z => z.2.2.2.2, fun z => ⟨⟨hg, hl⟩, hq, hp, hm, z⟩⟩)
  have HZZ := hid hzz
  have HT := hid hHT
  have HBE := hid HS6.out.be
  clear hzz hyc hzr hHT
  clear hk
  go_wp2_with fail
  refine (HMK.out _).mono ?_
  rintro e wq ⟨rfl, rfl⟩
  go_wp2_with (first
    | (refine wpList_store_s rfl 39 (.tmp 91) (.const (.slice none 0 0)) rfl (w.heap.size + 1) 61 none 0 0 rfl rfl _ info_f C61.out F61.out W5 HW5.out ?_)
    | (refine wpList_store_i rfl 31 (.tmp 92) (.const (.int .u32 0)) rfl (w.heap.size + 1) 62 .u32 0 rfl rfl _ info_m C62.out F62.out W6 HW6.out ?_)
    | (refine wpList_load_g (by rfl) 41 (.tmp 3) rfl (w.heap.size + 1) 0 rfl yc _ RGZ huc rfl (by rw [HLZ.out]; exact info_cm) ?_; simp only [pq4])
    | fail)
  refine HZZ.out.mono ?_
  rintro e w9 ⟨rfl, hb9⟩
  have HB9 := hid (HBE.out.trans (hb9.mono HBE.out.size))
  clear hb9
  go_wp2_with fail
  go_ret
  exact ⟨by first | rfl | (rw [HT.out]; rfl), HB9.out⟩
theorem ccheck_3 (x : Cm) (w : World) (h : okCm w x) (hk : x.kd = 3) :
    Calls Tryz.prog 18 #[.agg (cmc x).toArray] w fun e w' => e = .returned (.bool (decide (cok x))) ∧ Below w.heap.size w w' := by
  by_cases hg : 0 ≤ x.dv
  case neg => exact ccheck_3a x w h hk hg
  by_cases hl : x.dv < 6
  case neg => exact ccheck_3b x w h hk hg hl
  by_cases hq : 1 ≤ x.rq ∧ x.rq ≤ 1099511627776
  case neg => exact ccheck_3c x w h hk hg hl hq
  by_cases hp : lchk x.f = 0
  case neg => exact ccheck_3d x w h hk hg hl hq hp
  by_cases hm : x.ms.toNat ≤ 511
  case neg => exact ccheck_3e x w h hk hg hl hq hp hm
  exact ccheck_3f x w h hk hg hl hq hp hm
theorem ccheck_4 (x : Cm) (w : World) (h : okCm w x) (hk : x.kd = 4) :
    Calls Tryz.prog 18 #[.agg (cmc x).toArray] w fun e w' => e = .returned (.bool (decide (cok x))) ∧ Below w.heap.size w w' := by
  have hue := Tryz.underlying38
  have hup := Tryz.underlying36
  have huc := Tryz.underlying41
  obtain ⟨hs1, hth⟩ := CkSt.new w x h.e8 h.p8
  have B0 := Blk.new w (cmc x) 41
  have RG0 := B0.range 0 (cmc x) (by rw [List.drop_zero, List.take_length])
  have honc := all_oneCell_toArray (cmc_one x)
  have HLC := hid (cmc_len h.e8 h.p8)
  have HPX := hid (cm_at h.e8 h.p8)
  obtain ⟨xc, hxc⟩ : ∃ c, c = cmc x := ⟨_, rfl⟩
  obtain ⟨W1, hW1⟩ : ∃ W1, W1 = ((w.alloc (.cells (cmc x).toArray 41)).alloc (.cells zA63 41)).setCells (w.heap.size + 1) 0 (cmc x) := ⟨_, rfl⟩
  rw [← hW1] at hs1
  rw [← hxc] at hW1 RG0 honc HLC hth ⊢
  have HS1 := hid hs1
  have HW1 := hid hW1
  have HON := hid honc
  have TH1 := hth
  obtain ⟨R, hR⟩ : ∃ R, R = decide (cok x) := ⟨_, rfl⟩
  rw [← hR]
  have HR := hid hR
  have e1 : (x.kd == 1) = false := by rw [hk]; rfl
  have e5 : (x.kd == 5) = false := by rw [hk]; rfl
  have e2 : (x.kd == 2) = false := by rw [hk]; rfl
  have e3 : (x.kd == 3) = false := by rw [hk]; rfl
  have e4 : (x.kd == 4) = true := by rw [hk]; rfl
  have ka_kd := HS1.out.a.cell HPX.out.1
  have kb_kd := HS1.out.b.cell (cm_at HS1.out.y1 HS1.out.y2).1
  have kf_kd := HS1.out.b.frozen 0
  clear hs1 hth hxc hW1 honc hR B0
  have ka_30 := HS1.out.a.cell HPX.out.2.1
  have ka_31 := HS1.out.a.cell HPX.out.2.2.1
  have kb_30 := HS1.out.b.cell (cm_at HS1.out.y1 HS1.out.y2).2.1
  have kb_31 := HS1.out.b.cell (cm_at HS1.out.y1 HS1.out.y2).2.2.1
  have kf_30 := HS1.out.b.frozen 30
  have kf_31 := HS1.out.b.frozen 31
  have hs2 := HS1.out.set 0 (.int .i64 0) (cm_sets HS1.out.y1 HS1.out.y2 0 0#32).1 HS1.out.y1 HS1.out.y2
  have hs3 := hs2.set 30 (.int .i64 0) (cm_sets hs2.y1 hs2.y2 0 0#32).2.1 hs2.y1 hs2.y2
  have hs4 := hs3.set 31 (.int .i64 0) (cm_sets hs3.y1 hs3.y2 0 0#32).2.2.1 hs3.y1 hs3.y2
  have hs4 : CkSt w x (y4 x) _ := hs4
  have HS4 := hid hs4
  clear hs2 hs3 hs4
  by_cases hg : 0 ≤ x.dv
  · have bg : decide (0 ≤ x.dv) = true := by simp [hg]
    by_cases hl : x.dv < 6
    · have bl : decide (x.dv < 6) = true := by simp [hl]
      by_cases hq : 1 ≤ x.rq ∧ x.rq ≤ 1099511627776
      · have HAQ : Hid (∀ wx : World, Calls Tryz.prog 43 #[.int .i64 x.rq] wx fun e w' => e = .returned (.bool true) ∧ wx = w') := Lib.hid (fun wx => by
          have h0 := cabove_any x.rq wx
          rwa [decide_eq_true hq] at h0)
        have hzz := czero_any (y4 x) _ ⟨HS4.out.y1, HS4.out.y2, h.len, h.cap, h.max, ((h.see.below HS4.out.be).more HS4.out.be.size)⟩
        have RGZ := HS4.out.b.range 0 (cmc (y4 x)) (by rw [List.drop_zero, List.take_length])
        have HLZ := hid (cmc_len HS4.out.y1 HS4.out.y2)
        obtain ⟨yc, hyc⟩ : ∃ c, c = cmc (y4 x) := ⟨_, rfl⟩
        obtain ⟨zr, hzr⟩ : ∃ b, b = decide (cz (y4 x)) := ⟨_, rfl⟩
        rw [← hyc] at hzz RGZ HLZ
        rw [← hzr] at hzz
        have hHT : R = zr := by rw [HR.out, hzr]; exact decide_eq_decide.2 ((cok_4 hk).trans ⟨fun z => z.2.2, fun z => ⟨⟨hg, hl⟩, hq, z⟩⟩)
        have HZZ := hid hzz
        have HT := hid hHT
        have HBE := hid HS4.out.be
        clear hzz hyc hzr hHT
        clear hk
        go_enter Tryz.func18, Tryz.ntmps18
        go_wp2_with (first
          | (refine wpList_load_mid rfl 41 (.tmp 1) rfl w.heap.size 0 rfl xc _ RG0 huc rfl (by rw [HLC.out]; exact info_cm) ?_
             simp only [pq4])
          | (refine wpList_store_asC rfl 41 (.tmp 3) (.tmp 5) rfl (w.heap.size + 1) 0 xc.toArray rfl rfl (by simpa [HLC.out] using TH1) (by simpa [HLC.out] using info_cm) HON.out W1 HW1.out ?_)
          | fail)
        refine (HAQ.out _).mono ?_
        rintro e wq ⟨rfl, rfl⟩
        go_wp2_with (first
          | (refine wpList_load_g (by rfl) 41 (.tmp 3) rfl (w.heap.size + 1) 0 rfl yc _ RGZ huc rfl (by rw [HLZ.out]; exact info_cm) ?_; simp only [pq4])
          | fail)
        refine HZZ.out.mono ?_
        rintro e w9 ⟨rfl, hb9⟩
        have HB9 := hid (HBE.out.trans (hb9.mono HBE.out.size))
        clear hb9
        go_wp2_with fail
        go_ret
        exact ⟨by first | rfl | (rw [HT.out]; rfl), HB9.out⟩
      · have HAQ : Hid (∀ wx : World, Calls Tryz.prog 43 #[.int .i64 x.rq] wx fun e w' => e = .returned (.bool false) ∧ wx = w') := Lib.hid (fun wx => by
          have h0 := cabove_any x.rq wx
          rwa [decide_eq_false hq] at h0)
        have hHT : R = false := by rw [HR.out]; exact decide_eq_false (fun z => hq ((cok_4 hk).1 z).2.1)
        have HT := hid hHT
        clear hHT
        have HBE := hid HS4.out.be
        clear hk
        go_enter Tryz.func18, Tryz.ntmps18
        go_wp2_with (first
          | (refine wpList_load_mid rfl 41 (.tmp 1) rfl w.heap.size 0 rfl xc _ RG0 huc rfl (by rw [HLC.out]; exact info_cm) ?_
             simp only [pq4])
          | (refine wpList_store_asC rfl 41 (.tmp 3) (.tmp 5) rfl (w.heap.size + 1) 0 xc.toArray rfl rfl (by simpa [HLC.out] using TH1) (by simpa [HLC.out] using info_cm) HON.out W1 HW1.out ?_)
          | fail)
        refine (HAQ.out _).mono ?_
        rintro e wq ⟨rfl, rfl⟩
        go_wp2_with fail
        go_ret
        exact ⟨by first | rfl | (rw [HT.out]; rfl), HBE.out⟩
    · have bl : decide (x.dv < 6) = false := by simp [hl]
      have hHT : R = false := by rw [HR.out]; exact decide_eq_false (fun z => hl ((cok_4 hk).1 z).1.2)
      have HT := hid hHT
      clear hHT
      have HBE := hid HS4.out.be
      clear hk
      go_enter Tryz.func18, Tryz.ntmps18
      go_wp2_with (first
        | (refine wpList_load_mid rfl 41 (.tmp 1) rfl w.heap.size 0 rfl xc _ RG0 huc rfl (by rw [HLC.out]; exact info_cm) ?_
           simp only [pq4])
        | (refine wpList_store_asC rfl 41 (.tmp 3) (.tmp 5) rfl (w.heap.size + 1) 0 xc.toArray rfl rfl (by simpa [HLC.out] using TH1) (by simpa [HLC.out] using info_cm) HON.out W1 HW1.out ?_)
        | fail)
      go_ret
      exact ⟨by first | rfl | (rw [HT.out]; rfl), HBE.out⟩
  · have bg : decide (0 ≤ x.dv) = false := by simp [hg]
    have hHT : R = false := by rw [HR.out]; exact decide_eq_false (fun z => hg ((cok_4 hk).1 z).1.1)
    have HT := hid hHT
    clear hHT
    have HBE := hid HS4.out.be
    clear hk
    go_enter Tryz.func18, Tryz.ntmps18
    go_wp2_with (first
      | (refine wpList_load_mid rfl 41 (.tmp 1) rfl w.heap.size 0 rfl xc _ RG0 huc rfl (by rw [HLC.out]; exact info_cm) ?_
         simp only [pq4])
      | (refine wpList_store_asC rfl 41 (.tmp 3) (.tmp 5) rfl (w.heap.size + 1) 0 xc.toArray rfl rfl (by simpa [HLC.out] using TH1) (by simpa [HLC.out] using info_cm) HON.out W1 HW1.out ?_)
      | fail)
    go_ret
    exact ⟨by first | rfl | (rw [HT.out]; rfl), HBE.out⟩
theorem ccheck_5 (x : Cm) (w : World) (h : okCm w x) (hk : x.kd = 5) :
    Calls Tryz.prog 18 #[.agg (cmc x).toArray] w fun e w' => e = .returned (.bool (decide (cok x))) ∧ Below w.heap.size w w' := by
  have hue := Tryz.underlying38
  have hup := Tryz.underlying36
  have huc := Tryz.underlying41
  obtain ⟨hs1, hth⟩ := CkSt.new w x h.e8 h.p8
  have B0 := Blk.new w (cmc x) 41
  have RG0 := B0.range 0 (cmc x) (by rw [List.drop_zero, List.take_length])
  have honc := all_oneCell_toArray (cmc_one x)
  have HLC := hid (cmc_len h.e8 h.p8)
  have HPX := hid (cm_at h.e8 h.p8)
  obtain ⟨xc, hxc⟩ : ∃ c, c = cmc x := ⟨_, rfl⟩
  obtain ⟨W1, hW1⟩ : ∃ W1, W1 = ((w.alloc (.cells (cmc x).toArray 41)).alloc (.cells zA63 41)).setCells (w.heap.size + 1) 0 (cmc x) := ⟨_, rfl⟩
  rw [← hW1] at hs1
  rw [← hxc] at hW1 RG0 honc HLC hth ⊢
  have HS1 := hid hs1
  have HW1 := hid hW1
  have HON := hid honc
  have TH1 := hth
  obtain ⟨R, hR⟩ : ∃ R, R = decide (cok x) := ⟨_, rfl⟩
  rw [← hR]
  have HR := hid hR
  have e1 : (x.kd == 1) = false := by rw [hk]; rfl
  have e5 : (x.kd == 5) = true := by rw [hk]; rfl
  have e2 : (x.kd == 2) = false := by rw [hk]; rfl
  have e3 : (x.kd == 3) = false := by rw [hk]; rfl
  have e4 : (x.kd == 4) = false := by rw [hk]; rfl
  have ka_kd := HS1.out.a.cell HPX.out.1
  have kb_kd := HS1.out.b.cell (cm_at HS1.out.y1 HS1.out.y2).1
  have kf_kd := HS1.out.b.frozen 0
  clear hs1 hth hxc hW1 honc hR B0
  have ka_kp := HS1.out.a.cell HPX.out.2.2.2.2.2.1
  have hs2 := HS1.out.set 0 (.int .i64 0) (cm_sets HS1.out.y1 HS1.out.y2 0 0#32).1 HS1.out.y1 HS1.out.y2
  have kb_34 := HS1.out.b.cell (cm_at HS1.out.y1 HS1.out.y2).2.2.2.2.2.1
  have kf_34 := HS1.out.b.frozen 34
  have hs3 := hs2.set 34 (.int .i64 0) (cm_sets hs2.y1 hs2.y2 0 0#32).2.2.2.2.2.1 hs2.y1 hs2.y2
  have hs3 : CkSt w x (y5 x) _ := hs3
  have HS3 := hid hs3
  clear hs2 hs3
  by_cases hz : x.kp = 0
  · have b0 : (x.kp == 0) = true := by simp [hz]
    have hzz := czero_any (y5 x) _ ⟨HS3.out.y1, HS3.out.y2, h.len, h.cap, h.max, ((h.see.below HS3.out.be).more HS3.out.be.size)⟩
    have RGZ := HS3.out.b.range 0 (cmc (y5 x)) (by rw [List.drop_zero, List.take_length])
    have HLZ := hid (cmc_len HS3.out.y1 HS3.out.y2)
    obtain ⟨yc, hyc⟩ : ∃ c, c = cmc (y5 x) := ⟨_, rfl⟩
    obtain ⟨zr, hzr⟩ : ∃ b, b = decide (cz (y5 x)) := ⟨_, rfl⟩
    rw [← hyc] at hzz RGZ HLZ
    rw [← hzr] at hzz
    have hHT : R = zr := by rw [HR.out, hzr]; exact decide_eq_decide.2 ((cok_5 hk).trans ⟨fun z => z.2, fun z => ⟨⟨by omega, by omega⟩, z⟩⟩)
    have HZZ := hid hzz
    have HT := hid hHT
    have HBE := hid HS3.out.be
    clear hzz hyc hzr hHT
    clear hk
    go_enter Tryz.func18, Tryz.ntmps18
    go_wp2_with (first
      | (refine wpList_load_mid rfl 41 (.tmp 1) rfl w.heap.size 0 rfl xc _ RG0 huc rfl (by rw [HLC.out]; exact info_cm) ?_
         simp only [pq4])
      | (refine wpList_store_asC rfl 41 (.tmp 3) (.tmp 5) rfl (w.heap.size + 1) 0 xc.toArray rfl rfl (by simpa [HLC.out] using TH1) (by simpa [HLC.out] using info_cm) HON.out W1 HW1.out ?_)
      | (refine wpList_load_g (by rfl) 41 (.tmp 3) rfl (w.heap.size + 1) 0 rfl yc _ RGZ huc rfl (by rw [HLZ.out]; exact info_cm) ?_; simp only [pq4])
      | fail)
    refine HZZ.out.mono ?_
    rintro e w9 ⟨rfl, hb9⟩
    have HB9 := hid (HBE.out.trans (hb9.mono HBE.out.size))
    clear hb9
    go_wp2_with fail
    go_ret
    exact ⟨by first | rfl | (rw [HT.out]; rfl), HB9.out⟩
  have b0 : (x.kp == 0) = false := by simp [hz]
  by_cases hq : 1 ≤ x.kp ∧ x.kp ≤ 1099511627776
  · have HAK : Hid (∀ wx : World, Calls Tryz.prog 43 #[.int .i64 x.kp] wx fun e w' => e = .returned (.bool true) ∧ wx = w') := Lib.hid (fun wx => by
      have h0 := cabove_any x.kp wx
      rwa [decide_eq_true hq] at h0)
    have hzz := czero_any (y5 x) _ ⟨HS3.out.y1, HS3.out.y2, h.len, h.cap, h.max, ((h.see.below HS3.out.be).more HS3.out.be.size)⟩
    have RGZ := HS3.out.b.range 0 (cmc (y5 x)) (by rw [List.drop_zero, List.take_length])
    have HLZ := hid (cmc_len HS3.out.y1 HS3.out.y2)
    obtain ⟨yc, hyc⟩ : ∃ c, c = cmc (y5 x) := ⟨_, rfl⟩
    obtain ⟨zr, hzr⟩ : ∃ b, b = decide (cz (y5 x)) := ⟨_, rfl⟩
    rw [← hyc] at hzz RGZ HLZ
    rw [← hzr] at hzz
    have hHT : R = zr := by rw [HR.out, hzr]; exact decide_eq_decide.2 ((cok_5 hk).trans ⟨fun z => z.2, fun z => ⟨⟨by omega, by omega⟩, z⟩⟩)
    have HZZ := hid hzz
    have HT := hid hHT
    have HBE := hid HS3.out.be
    clear hzz hyc hzr hHT
    clear hk
    go_enter Tryz.func18, Tryz.ntmps18
    go_wp2_with (first
      | (refine wpList_load_mid rfl 41 (.tmp 1) rfl w.heap.size 0 rfl xc _ RG0 huc rfl (by rw [HLC.out]; exact info_cm) ?_
         simp only [pq4])
      | (refine wpList_store_asC rfl 41 (.tmp 3) (.tmp 5) rfl (w.heap.size + 1) 0 xc.toArray rfl rfl (by simpa [HLC.out] using TH1) (by simpa [HLC.out] using info_cm) HON.out W1 HW1.out ?_)
      | fail)
    refine (HAK.out _).mono ?_
    rintro e wq ⟨rfl, rfl⟩
    go_wp2_with (first
      | (refine wpList_load_g (by rfl) 41 (.tmp 3) rfl (w.heap.size + 1) 0 rfl yc _ RGZ huc rfl (by rw [HLZ.out]; exact info_cm) ?_; simp only [pq4])
      | fail)
    refine HZZ.out.mono ?_
    rintro e w9 ⟨rfl, hb9⟩
    have HB9 := hid (HBE.out.trans (hb9.mono HBE.out.size))
    clear hb9
    go_wp2_with fail
    go_ret
    exact ⟨by first | rfl | (rw [HT.out]; rfl), HB9.out⟩
  · have HAK : Hid (∀ wx : World, Calls Tryz.prog 43 #[.int .i64 x.kp] wx fun e w' => e = .returned (.bool false) ∧ wx = w') := Lib.hid (fun wx => by
      have h0 := cabove_any x.kp wx
      rwa [decide_eq_false hq] at h0)
    have hHT : R = false := by rw [HR.out]; exact decide_eq_false (fun z => hq (by have := ((cok_5 hk).1 z).1; omega))
    have HT := hid hHT
    clear hHT
    have HBE := hid HS3.out.be
    clear hk
    go_enter Tryz.func18, Tryz.ntmps18
    go_wp2_with (first
      | (refine wpList_load_mid rfl 41 (.tmp 1) rfl w.heap.size 0 rfl xc _ RG0 huc rfl (by rw [HLC.out]; exact info_cm) ?_
         simp only [pq4])
      | (refine wpList_store_asC rfl 41 (.tmp 3) (.tmp 5) rfl (w.heap.size + 1) 0 xc.toArray rfl rfl (by simpa [HLC.out] using TH1) (by simpa [HLC.out] using info_cm) HON.out W1 HW1.out ?_)
      | fail)
    refine (HAK.out _).mono ?_
    rintro e wq ⟨rfl, rfl⟩
    go_wp2_with fail
    go_ret
    exact ⟨by first | rfl | (rw [HT.out]; rfl), HBE.out⟩
theorem ccheck_any (x : Cm) (w : World) (h : okCm w x) :
    Calls Tryz.prog 18 #[.agg (cmc x).toArray] w fun e w' => e = .returned (.bool (decide (cok x))) ∧ Below w.heap.size w w' := by
  by_cases h1 : x.kd = 1
  · exact ccheck_1 x w h h1
  by_cases h2 : x.kd = 2
  · exact ccheck_2 x w h h2
  by_cases h3 : x.kd = 3
  · exact ccheck_3 x w h h3
  by_cases h4 : x.kd = 4
  · exact ccheck_4 x w h h4
  by_cases h5 : x.kd = 5
  · exact ccheck_5 x w h h5
  · exact ccheck_0 x w h (by simp [h1, h2, h3, h4, h5])
def q1 (x : Cm) : Cm := { y1 x with kd := x.kd }
def q5 (x : Cm) : Cm := { y5 x with kd := x.kd }
def q4 (x : Cm) : Cm := { y4 x with kd := x.kd }
def q2 (x : Cm) : Cm := { y2 x with kd := x.kd }
def q3 (x : Cm) : Cm := { y3 x with kd := x.kd }
end Go.Proofs.YtnhcjadkbogioaaGreat
namespace Go.Proofs.YtnhcjadkbogioaaGreat
open Go
namespace ValM
end ValM
end Go.Proofs.YtnhcjadkbogioaaGreat
namespace Go.Proofs.YtnhcjadkbogioaaGreat
open Go Go.RowKit BitM ValM
theorem Blk.val {w : World} {g : Nat} {k n : Int} {s : ByteArray} (h : Blk w g (vcells (k, n, s))) : w.cell? ⟨g, 0, none⟩ = some (.int .i64 k) ∧ w.cell? ⟨g, 1, none⟩ = some (.int .i64 n) ∧ w.cell? ⟨g, 2, none⟩ = some (.string s) := ⟨h.cell rfl, h.cell rfl, h.cell rfl⟩
end Go.Proofs.YtnhcjadkbogioaaGreat
namespace Go.Proofs.YtnhcjadkbogioaaGreat
open Go Go.RowKit OctM
section
open ValM
end
def ee (x y : Cm) : Prop := x.ek = y.ek ∧ x.eid = y.eid ∧ x.eg = y.eg ∧ ((x.em.toNat : Int) = (y.em.toNat : Int) ∧ (x.el.toNat : Int) = (y.el.toNat : Int) ∧ x.ef = y.ef)
def pp2 (x y : Cm) : Prop := (x.pm.toNat : Int) = (y.pm.toNat : Int) ∧ (x.pl.toNat : Int) = (y.pl.toNat : Int) ∧ x.pf = y.pf
def csm (x y : Cm) : Prop := x.kd = y.kd ∧ ee x y ∧ x.dv = y.dv ∧ x.rq = y.rq ∧ x.id = y.id ∧ x.bs = y.bs ∧ x.kp = y.kp ∧ pp2 x y ∧ x.f = y.f ∧ (x.ms.toNat : Int) = (y.ms.toNat : Int)
noncomputable instance (x y : Cm) : Decidable (ee x y) := Classical.propDecidable _
noncomputable instance (x y : Cm) : Decidable (pp2 x y) := Classical.propDecidable _
noncomputable instance (x y : Cm) : Decidable (csm x y) := Classical.propDecidable _
theorem csm_self (x : Cm) : csm x x := ⟨rfl, ⟨rfl, rfl, rfl, rfl, rfl, rfl⟩, rfl, rfl, rfl, rfl, rfl, ⟨rfl, rfl, rfl⟩, rfl, rfl⟩
section
variable {x : Cm} (h1 : x.ef.length = 8) (h2 : x.pf.length = 8)
include h1 h2
end
end Go.Proofs.YtnhcjadkbogioaaGreat
namespace Go.Proofs.YtnhcjadkbogioaaGreat
open Go Go.RowKit OctM BitM
end Go.Proofs.YtnhcjadkbogioaaGreat
namespace Go.Proofs.YtnhcjadkbogioaaGreat
open Go Go.RowKit OctM
theorem cput_4 (AB : Option Addr) (nb cb : Nat) (lb : List UInt8) (x : Cm) (w : World) (hnb : lb.length = nb) (hsb : Sees w w.heap.size AB (bvs lb)) (hmb : nb ≤ 10000) (h : okCm w x) (hk : cok x) (h5 : x.kd = 4) :
    Calls Tryz.prog 13 #[.slice AB nb cb, .agg (cmc x).toArray] w (GivesBytes w (lb ++ putC x)) := by
  have huc := Tryz.underlying41
  have B0 := Blk.new w (cmc x) 41
  have hb0 := below_a1C w (.cells (cmc x).toArray 41)
  have hck := ccheck_any x (w.alloc (.cells (cmc x).toArray 41)) (h.later hb0)
  have RG0 := B0.range 0 (cmc x) (by rw [List.drop_zero, List.take_length])
  have HLC := hid (cmc_len h.e8 h.p8)
  have HPX := hid (cm_at h.e8 h.p8)
  have HSB := hid hsb
  have HNB := hid hnb
  obtain ⟨xc, hxc⟩ : ∃ c, c = cmc x := ⟨_, rfl⟩
  rw [← hxc] at B0 hb0 hck RG0 HLC HPX ⊢
  have HB0 := hid B0
  have HBE := hid hb0
  rw [decide_eq_true hk] at hck
  have HCK := hid hck
  obtain ⟨R, hR⟩ : ∃ R, R = lb ++ putC x := ⟨_, rfl⟩
  rw [← hR]
  have HR : Hid (R = lb ++ (enc (held x.kd) ++ (enc (held x.dv) ++ enc (held x.rq)))) := hid (by rw [hR]; unfold putC cmb; rw [if_pos hk, if_neg (by omega), if_neg (by omega), if_neg (by omega), if_neg (by omega), List.append_nil])
  obtain ⟨l1, hl1⟩ : ∃ l, l = [] ++ enc (held (x.kd)) := ⟨_, rfl⟩
  obtain ⟨n1, hn1⟩ : ∃ n, n = l1.length := ⟨_, rfl⟩
  have L1 : Hid (n1 ≤ 6) := hid (by have := held_len (x.kd); rw [hn1, hl1, List.length_append]; simp only [List.length_nil]; omega)
  have M1 := hid hn1
  have Q1 := hid hl1
  have N1 : Hid (∀ wx : World, Calls Tryz.prog 28 #[.slice none 0 0, .int .i64 (x.kd)] wx (GivesBytes wx l1)) := hid (fun wx => by rw [hl1]; exact oct_num none 0 0 [] (x.kd) wx rfl Sees.nil_ (by omega))
  clear hl1 hn1
  obtain ⟨l2, hl2⟩ : ∃ l, l = l1 ++ enc (held (x.dv)) := ⟨_, rfl⟩
  obtain ⟨n2, hn2⟩ : ∃ n, n = l2.length := ⟨_, rfl⟩
  have L2 : Hid (n2 ≤ 12) := hid (by have := held_len (x.dv); have := L1.out; have := M1.out; rw [hn2, hl2, List.length_append]; omega)
  have M2 := hid hn2
  have Q2 := hid hl2
  have N2 : Hid (∀ (A' : Option Addr) (c' : Nat) (wx : World), Sees wx wx.heap.size A' (bvs l1) → Calls Tryz.prog 28 #[.slice A' n1 c', .int .i64 (x.dv)] wx (GivesBytes wx l2)) := hid (fun A' c' wx h => by rw [hl2]; exact oct_num A' n1 c' l1 (x.dv) wx M1.out.symm h (by have := L1.out; omega))
  clear hl2 hn2
  obtain ⟨l3, hl3⟩ : ∃ l, l = l2 ++ enc (held (x.rq)) := ⟨_, rfl⟩
  obtain ⟨n3, hn3⟩ : ∃ n, n = l3.length := ⟨_, rfl⟩
  have L3 : Hid (n3 ≤ 18) := hid (by have := held_len (x.rq); have := L2.out; have := M2.out; rw [hn3, hl3, List.length_append]; omega)
  have M3 := hid hn3
  have Q3 := hid hl3
  have N3 : Hid (∀ (A' : Option Addr) (c' : Nat) (wx : World), Sees wx wx.heap.size A' (bvs l2) → Calls Tryz.prog 28 #[.slice A' n2 c', .int .i64 (x.rq)] wx (GivesBytes wx l3)) := hid (fun A' c' wx h => by rw [hl3]; exact oct_num A' n2 c' l2 (x.rq) wx M2.out.symm h (by have := L2.out; omega))
  clear hl3 hn3
  have e1 : (x.kd == 1) = false := by rw [h5]; rfl
  have e5 : (x.kd == 5) = false := by rw [h5]; rfl
  have e2 : (x.kd == 2) = false := by rw [h5]; rfl
  have e3 : (x.kd == 3) = false := by rw [h5]; rfl
  have HFL : Hid ([lb, l3].flatten = R) := hid (by rw [HR.out, Q3.out, Q2.out, Q1.out]; simp)
  clear hck hxc B0 hb0 hsb hnb hk h5 hR
  go_enter Tryz.func13, Tryz.ntmps13
  go_wp2_with (first
    | (refine wpList_load_mid rfl 41 (.tmp 3) rfl w.heap.size 0 rfl xc _ RG0 huc rfl (by rw [HLC.out]; exact info_cm) ?_; simp only [pq4])
    | fail)
  refine HCK.out.mono ?_
  rintro e w1 ⟨rfl, hb1⟩
  have HB1 := hid (HB0.out.later hb1)
  have HBE1 := hid (HBE.out.trans (hb1.mono HBE.out.size))
  clear hb1 RG0
  have k1_0 := HB1.out.cell HPX.out.1
  go_wp2_with fail
  refine (N1.out _).mono ?_
  rintro e w2 ⟨A1, c1, rfl, o1, b1⟩
  have s1 := o1.sees
  rw [← M1.out]
  have HB2 := hid (HB1.out.later b1)
  have HBE2 := hid (HBE1.out.trans (b1.mono HBE1.out.size))
  clear b1 o1
  have k2_0 := HB2.out.cell HPX.out.1
  clear k1_0
  have kx1 : ∀ kk : LW w2, kk.val.cell? ⟨w.heap.size, 30, none⟩ = some (.int .i64 x.dv) := fun kk => (kk.le.cell (p := ⟨w.heap.size, 30, none⟩) HB2.out.lt).trans (HB2.out.cell HPX.out.2.1)
  have kx2 : ∀ kk : LW w2, kk.val.cell? ⟨w.heap.size, 31, none⟩ = some (.int .i64 x.rq) := fun kk => (kk.le.cell (p := ⟨w.heap.size, 31, none⟩) HB2.out.lt).trans (HB2.out.cell HPX.out.2.2.1)
  go_wp2_with fail
  refine wp_region_steady [(19, relSee n2 l2), (22, relSee n3 l3)] 63 (by kernel_rfl) (by kernel_rfl) (by kernel_rfl) (by rfl) ?_
  iterate 3 (refine wpG_quiet (by rfl) (by rfl) (by rfl) (fun K hK => ?_); go_big_quiet_op; refine hK _ ?_; clear hK K)
  refine wpG_calls (relSee n2 l2) (by rfl) (by rfl) 28 #[.slice A1 n1 c1, .int .i64 x.dv] (by intro _; simp [go_sem]) (fun wx hl => (N2.out _ _ _ ((s1.below hl.1).more hl.1.size)).mono fun e w' h => gives_see M2.out.symm h) ?_
  rintro _ ⟨_, _, _, ⟨AX, cX, rfl, _⟩⟩
  simp only [pq4]
  iterate 2 (refine wpG_quiet (by rfl) (by rfl) (by rfl) (fun K hK => ?_); go_big_quiet_op; refine hK _ ?_; clear hK K)
  refine wpG_calls (relSee n3 l3) (by rfl) (by rfl) 28 #[.slice AX n2 cX, .int .i64 x.rq] (by intro _; simp [go_sem]) (fun wx hl => ?_) ?_
  · obtain ⟨AY, cY, hY, sY⟩ := hl.2 19 _ (by simp [Op.operands, Call.operands]) rfl (by intro h; cases h)
    cases hY
    exact (N3.out _ _ _ sY).mono fun e w' h => gives_see M3.out.symm h
  rintro _ ⟨_, _, _, ⟨A3, c3, rfl, _⟩⟩
  simp only [pq4]
  iterate 1 (refine wpG_quiet (by rfl) (by rfl) (by rfl) (fun K hK => ?_); go_big_quiet_op; refine hK _ ?_; clear hK K)
  refine wpG_nil fun w4 hl hsz => ?_
  obtain ⟨_, AW, cW, eqz, s3⟩ := hsz
  cases eqz
  have HB4 := hid (HB2.out.later hl)
  have HBE4 := hid (HBE2.out.trans (hl.mono HBE2.out.size))
  clear kx1 kx2 hl
  clear k2_0
  have k4_0 := HB4.out.cell HPX.out.1
  go_wp2_with fail
  have hsA : Sees w4 w4.heap.size AB (bvs lb) := (HSB.out.below HBE4.out).more HBE4.out.size
  have HCC := hid (concat_any w4.heap.size 2 2 [lb, l3] (w4.alloc (.cells #[.slice AB nb cb, .slice A3 n3 c3] 22)) rfl (by simp) (flat2 22 HNB.out M3.out.symm hsA s3) (by omega) (by have := HNB.out; have := M3.out; have := L3.out; simp; omega))
  rw [HFL.out] at HCC
  have HBW := hid (HBE4.out.alloc HBE4.out.size (.cells #[.slice AB nb cb, .slice A3 n3 c3] 22))
  clear hsA s3
  go_wp2_with fail
  refine HCC.out.mono ?_
  rintro e w9 ⟨A9, c9, rfl, o9, b9⟩
  have HF : Hid (GivesBytes w R (.returned (.slice A9 R.length c9)) w9) := hid ⟨A9, c9, rfl, o9.lower HBW.out.size, HBW.out.trans (b9.mono HBW.out.size)⟩
  clear o9 b9
  go_wp2_with fail
  go_ret
  exact HF.out
def zcm : Cm := ⟨0, 0, 0, 0, 0#32, 0#32, zeros, 0, 0, 0, 0, 0, 0#32, 0#32, zeros, none, 0, 0, [], 0#32⟩
def xaw : Cm := { zcm with kd := 4, dv := 2, rq := 7 }
theorem zcm_ok (w : World) : okCm w zcm := ⟨rfl, rfl, rfl, Nat.le_refl _, by decide, Sees.nil_⟩
theorem xaw_ok (w : World) : okCm w xaw := ⟨rfl, rfl, rfl, Nat.le_refl _, by decide, Sees.nil_⟩
theorem xaw_cok : cok xaw := by
  have hp : pz xaw := ⟨rfl, rfl, rfl⟩
  have he : ez xaw := ⟨rfl, rfl, rfl, rfl, rfl, rfl⟩
  refine ⟨Or.inr (Or.inr (Or.inr (Or.inl rfl))), fun h => absurd h (by decide), fun h => absurd h (by decide), fun _ => ⟨by decide, by decide, he, rfl⟩, fun h => absurd h (by decide), fun h => absurd h (by decide), fun _ => ⟨hp, rfl, rfl, rfl, rfl⟩⟩
theorem xaw_bytes : putC xaw = [4, 2, 7] := by
  unfold putC
  rw [if_pos xaw_cok]
  decide +kernel
theorem cm_awake (w : World) : Calls Tryz.prog 4 #[] w fun e w' => e = .returned (.bool true) ∧ Below w.heap.size w w' := by
  have HPC := hid (fun wx : World => cput_4 none 0 0 [] xaw wx rfl Sees.nil_ (by omega) (xaw_ok wx) xaw_cok rfl)
  rw [List.nil_append, xaw_bytes] at HPC
  go_enter Tryz.func4, Tryz.ntmps4
  go_wp2_with fail
  refine (HPC.out _).mono ?_
  rintro e w8 ⟨A8, c8, rfl, o8, b8⟩
  have hr := str_conv w8 w8.heap.size A8 3 c8 _ ⟨#[4, 2, 7]⟩ rfl o8.sees rfl
  clear o8
  go_wp2_with (first
    | (refine wpList_exec (by rfl) (.string ⟨#[4, 2, 7]⟩) (exec_conv (.tmp 2) 22 9 rfl _ rfl _ hr) ?_)
    | fail)
  go_ret
  exact ⟨rfl, b8⟩
end Go.Proofs.YtnhcjadkbogioaaGreat
