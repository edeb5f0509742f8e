/- Commands: which may be, by the program: kind 2, f. -/
import Derived.Test.YtnhcjadkbogioaaGreatM16
set_option maxRecDepth 100000
set_option maxHeartbeats 6400000
namespace Go.Proofs.YtnhcjadkbogioaaGreat
set_option linter.unusedVariables false
set_option linter.unusedSimpArgs false
open Go Go.RowKit OctM
theorem ccheck_2f (x : Cm) (w : World) (h : okCm w x) (hk : x.kd = 2) (hg : 0 ≤ x.dv) (hl : x.dv < 6) (hq : 1 ≤ x.rq ∧ x.rq ≤ 1099511627776) (hi : 1 ≤ x.id ∧ x.id ≤ 1099511627776) (hx : x.id < 1073741824) (hb : ¬ (1 ≤ x.bs ∧ x.bs ≤ 1099511627776)) :
    Calls Tryz.prog 18 #[.agg (cmc x).toArray] w fun e w' => e = .returned (.bool (decide (cok x))) ∧ Below w.heap.size w w' := by
  have hue := Tryz.underlying38
  have hup := Tryz.underlying36
  have huc := Tryz.underlying41
  obtain ⟨hs1, hth⟩ := CkSt.new w x h.e8 h.p8
  have B0 := Blk.new w (cmc x) 41
  have RG0 := B0.range 0 (cmc x) (by rw [List.drop_zero, List.take_length])
  have honc := all_oneCell_toArray (cmc_one x)
  have HLC := hid (cmc_len h.e8 h.p8)
  have HPX := hid (cm_at h.e8 h.p8)
  obtain ⟨xc, hxc⟩ : ∃ c, c = cmc x := ⟨_, rfl⟩
  obtain ⟨W1, hW1⟩ : ∃ W1, W1 = ((w.alloc (.cells (cmc x).toArray 41)).alloc (.cells zA63 41)).setCells (w.heap.size + 1) 0 (cmc x) := ⟨_, rfl⟩
  rw [← hW1] at hs1
  rw [← hxc] at hW1 RG0 honc HLC hth ⊢
  have HS1 := hid hs1
  have HW1 := hid hW1
  have HON := hid honc
  have TH1 := hth
  obtain ⟨R, hR⟩ : ∃ R, R = decide (cok x) := ⟨_, rfl⟩
  rw [← hR]
  have HR := hid hR
  have e1 : (x.kd == 1) = false := by rw [hk]; rfl
  have e5 : (x.kd == 5) = false := by rw [hk]; rfl
  have e2 : (x.kd == 2) = true := by rw [hk]; rfl
  have e3 : (x.kd == 3) = false := by rw [hk]; rfl
  have e4 : (x.kd == 4) = false := by rw [hk]; rfl
  have ka_kd := HS1.out.a.cell HPX.out.1
  have kb_kd := HS1.out.b.cell (cm_at HS1.out.y1 HS1.out.y2).1
  have kf_kd := HS1.out.b.frozen 0
  clear hs1 hth hxc hW1 honc hR B0
  clear ka_kd kb_kd kf_kd
  have S2 := HS1.out.set 0 (.int .i64 0) (cm_sets HS1.out.y1 HS1.out.y2 0 0#32).1 HS1.out.y1 HS1.out.y2
  have S2 : CkSt w x _ (W1.setCell ⟨w.heap.size + 1, 0, none⟩ (.int .i64 0)) := S2
  obtain ⟨W2, hW2⟩ : ∃ W, W = W1.setCell ⟨w.heap.size + 1, 0, none⟩ (.int .i64 0) := ⟨_, rfl⟩
  rw [← hW2] at S2
  have C0 := hid (HS1.out.b.cell (cm_at HS1.out.y1 HS1.out.y2).1)
  have F0 := hid (HS1.out.b.frozen 0)
  have HW2 := hid hW2
  have S2 := hid S2
  clear hW2
  have S3 := S2.out.set 30 (.int .i64 0) (cm_sets S2.out.y1 S2.out.y2 0 0#32).2.1 S2.out.y1 S2.out.y2
  have S3 : CkSt w x _ (W2.setCell ⟨w.heap.size + 1, 30, none⟩ (.int .i64 0)) := S3
  obtain ⟨W3, hW3⟩ : ∃ W, W = W2.setCell ⟨w.heap.size + 1, 30, none⟩ (.int .i64 0) := ⟨_, rfl⟩
  rw [← hW3] at S3
  have C30 := hid (S2.out.b.cell (cm_at S2.out.y1 S2.out.y2).2.1)
  have F30 := hid (S2.out.b.frozen 30)
  have HW3 := hid hW3
  have S3 := hid S3
  clear hW3
  have HS4 := S3.out.set 31 (.int .i64 0) (cm_sets S3.out.y1 S3.out.y2 0 0#32).2.2.1 S3.out.y1 S3.out.y2
  have HS4 : CkSt w x (y4 x) (W3.setCell ⟨w.heap.size + 1, 31, none⟩ (.int .i64 0)) := HS4
  obtain ⟨W4, hW4⟩ : ∃ W, W = W3.setCell ⟨w.heap.size + 1, 31, none⟩ (.int .i64 0) := ⟨_, rfl⟩
  rw [← hW4] at HS4
  have C31 := hid (S3.out.b.cell (cm_at S3.out.y1 S3.out.y2).2.2.1)
  have F31 := hid (S3.out.b.frozen 31)
  have HW4 := hid hW4
  have HS4 := hid HS4
  clear hW4
  have ka_kd := S2.out.a.cell HPX.out.1
  have ka_30 := S2.out.a.cell HPX.out.2.1
  have ka_31 := S2.out.a.cell HPX.out.2.2.1
  have kd_kd := HS4.out.a.cell HPX.out.1
  have HONP := hid (all_oneCell_toArray (pcells_one 0 0 zeros))
  have bg : decide (0 ≤ x.dv) = true := by simp [hg]
  have bl : decide (x.dv < 6) = true := by simp [hl]
  have HAQ : Hid (∀ wx : World, Calls Tryz.prog 43 #[.int .i64 x.rq] wx fun e w' => e = .returned (.bool true) ∧ wx = w') := Lib.hid (fun wx => by
    have h0 := cabove_any x.rq wx
    rwa [decide_eq_true hq] at h0)
  have HAI : Hid (∀ wx : World, Calls Tryz.prog 43 #[.int .i64 x.id] wx fun e w' => e = .returned (.bool true) ∧ wx = w') := Lib.hid (fun wx => by
    have h0 := cabove_any x.id wx
    rwa [decide_eq_true hi] at h0)
  have bx : decide (x.id < 1073741824) = true := by simp [hx]
  have HAB : Hid (∀ wx : World, Calls Tryz.prog 43 #[.int .i64 x.bs] wx fun e w' => e = .returned (.bool false) ∧ wx = w') := Lib.hid (fun wx => by
    have h0 := cabove_any x.bs wx
    rwa [decide_eq_false hb] at h0)
  have ka_32 := HS4.out.a.cell HPX.out.2.2.2.1
  have ka_33 := HS4.out.a.cell HPX.out.2.2.2.2.1
  have S5 := HS4.out.set 32 (.int .i64 0) (cm_sets HS4.out.y1 HS4.out.y2 0 0#32).2.2.2.1 HS4.out.y1 HS4.out.y2
  have S5 : CkSt w x _ (W4.setCell ⟨w.heap.size + 1, 32, none⟩ (.int .i64 0)) := S5
  obtain ⟨W5, hW5⟩ : ∃ W, W = W4.setCell ⟨w.heap.size + 1, 32, none⟩ (.int .i64 0) := ⟨_, rfl⟩
  rw [← hW5] at S5
  have C32 := hid (HS4.out.b.cell (cm_at HS4.out.y1 HS4.out.y2).2.2.2.1)
  have F32 := hid (HS4.out.b.frozen 32)
  have HW5 := hid hW5
  have S5 := hid S5
  clear hW5
  have S6 := S5.out.set 33 (.int .i64 0) (cm_sets S5.out.y1 S5.out.y2 0 0#32).2.2.2.2.1 S5.out.y1 S5.out.y2
  have S6 : CkSt w x _ (W5.setCell ⟨w.heap.size + 1, 33, none⟩ (.int .i64 0)) := S6
  obtain ⟨W6, hW6⟩ : ∃ W, W = W5.setCell ⟨w.heap.size + 1, 33, none⟩ (.int .i64 0) := ⟨_, rfl⟩
  rw [← hW6] at S6
  have C33 := hid (S5.out.b.cell (cm_at S5.out.y1 S5.out.y2).2.2.2.2.1)
  have F33 := hid (S5.out.b.frozen 33)
  have HW6 := hid hW6
  have S6 := hid S6
  clear hW6
  have hs7 := S6.out.setP
  have THP := S6.out.b.there 35 26 (by rw [cmc_len S6.out.y1 S6.out.y2]; omega)
  obtain ⟨W7, hW7⟩ : ∃ W7, W7 = W6.setCells (w.heap.size + 1) 35 (pcells 0 0 zeros) := ⟨_, rfl⟩
  rw [← hW7] at hs7
  have hs7 : CkSt w x (y2 x) W7 := hs7
  have HS7 := hid hs7
  have HW7 := hid hW7
  clear hs7 hW7
  have hHT : R = false := by rw [HR.out]; exact decide_eq_false (fun z => hb ((cok_2 hk).1 z).2.2.2.1)
  have HT := hid hHT
  clear hHT
  have HBE := hid HS7.out.be
  clear hk
  go_enter Tryz.func18, Tryz.ntmps18
  go_wp2_with (first
    | (refine wpList_load_mid rfl 41 (.tmp 1) rfl w.heap.size 0 rfl xc _ RG0 huc rfl (by rw [HLC.out]; exact info_cm) ?_
       simp only [pq4])
    | (refine wpList_store_asC rfl 41 (.tmp 3) (.tmp 5) rfl (w.heap.size + 1) 0 xc.toArray rfl rfl (by simpa [HLC.out] using TH1) (by simpa [HLC.out] using info_cm) HON.out W1 HW1.out ?_)
    | (refine wpList_store_i rfl 3 (.tmp 6) (.const (.int .i64 0)) rfl (w.heap.size + 1) 0 .i64 0 rfl rfl _ info_i C0.out F0.out W2 HW2.out ?_)
    | fail)
  refine (HAQ.out _).mono ?_
  rintro e wq ⟨rfl, rfl⟩
  go_wp2_with (first
    | (refine wpList_store_i rfl 3 (.tmp 45) (.const (.int .i64 0)) rfl (w.heap.size + 1) 30 .i64 0 rfl rfl _ info_i C30.out F30.out W3 HW3.out ?_)
    | (refine wpList_store_i rfl 3 (.tmp 46) (.const (.int .i64 0)) rfl (w.heap.size + 1) 31 .i64 0 rfl rfl _ info_i C31.out F31.out W4 HW4.out ?_)
    | fail)
  refine (HAI.out _).mono ?_
  rintro e wq ⟨rfl, rfl⟩
  go_wp2_with fail
  refine (HAB.out _).mono ?_
  rintro e wq ⟨rfl, rfl⟩
  go_wp2_with (first
    | (refine wpList_store_i rfl 3 (.tmp 74) (.const (.int .i64 0)) rfl (w.heap.size + 1) 32 .i64 0 rfl rfl _ info_i C32.out F32.out W5 HW5.out ?_)
    | (refine wpList_store_i rfl 3 (.tmp 75) (.const (.int .i64 0)) rfl (w.heap.size + 1) 33 .i64 0 rfl rfl _ info_i C33.out F33.out W6 HW6.out ?_)
    | (refine wpList_store_asC rfl 36 (.tmp 76) (.tmp 73) rfl (w.heap.size + 1) 35 (pcells 0 0 zeros).toArray rfl rfl THP info_patch HONP.out W7 HW7.out ?_)
    | fail)
  go_ret
  exact ⟨by first | rfl | (rw [HT.out]; rfl), HBE.out⟩
theorem ccheck_2g (x : Cm) (w : World) (h : okCm w x) (hk : x.kd = 2) (hg : 0 ≤ x.dv) (hl : x.dv < 6) (hq : 1 ≤ x.rq ∧ x.rq ≤ 1099511627776) (hi : 1 ≤ x.id ∧ x.id ≤ 1099511627776) (hx : x.id < 1073741824) (hb : 1 ≤ x.bs ∧ x.bs ≤ 1099511627776) (hp : ¬ (pchk x.pm (x.pl.toNat : Int) x.pf = 0)) :
    Calls Tryz.prog 18 #[.agg (cmc x).toArray] w fun e w' => e = .returned (.bool (decide (cok x))) ∧ Below w.heap.size w w' := by
  have hue := Tryz.underlying38
  have hup := Tryz.underlying36
  have huc := Tryz.underlying41
  obtain ⟨hs1, hth⟩ := CkSt.new w x h.e8 h.p8
  have B0 := Blk.new w (cmc x) 41
  have RG0 := B0.range 0 (cmc x) (by rw [List.drop_zero, List.take_length])
  have honc := all_oneCell_toArray (cmc_one x)
  have HLC := hid (cmc_len h.e8 h.p8)
  have HPX := hid (cm_at h.e8 h.p8)
  obtain ⟨xc, hxc⟩ : ∃ c, c = cmc x := ⟨_, rfl⟩
  obtain ⟨W1, hW1⟩ : ∃ W1, W1 = ((w.alloc (.cells (cmc x).toArray 41)).alloc (.cells zA63 41)).setCells (w.heap.size + 1) 0 (cmc x) := ⟨_, rfl⟩
  rw [← hW1] at hs1
  rw [← hxc] at hW1 RG0 honc HLC hth ⊢
  have HS1 := hid hs1
  have HW1 := hid hW1
  have HON := hid honc
  have TH1 := hth
  obtain ⟨R, hR⟩ : ∃ R, R = decide (cok x) := ⟨_, rfl⟩
  rw [← hR]
  have HR := hid hR
  have e1 : (x.kd == 1) = false := by rw [hk]; rfl
  have e5 : (x.kd == 5) = false := by rw [hk]; rfl
  have e2 : (x.kd == 2) = true := by rw [hk]; rfl
  have e3 : (x.kd == 3) = false := by rw [hk]; rfl
  have e4 : (x.kd == 4) = false := by rw [hk]; rfl
  have ka_kd := HS1.out.a.cell HPX.out.1
  have kb_kd := HS1.out.b.cell (cm_at HS1.out.y1 HS1.out.y2).1
  have kf_kd := HS1.out.b.frozen 0
  clear hs1 hth hxc hW1 honc hR B0
  clear ka_kd kb_kd kf_kd
  have S2 := HS1.out.set 0 (.int .i64 0) (cm_sets HS1.out.y1 HS1.out.y2 0 0#32).1 HS1.out.y1 HS1.out.y2
  have S2 : CkSt w x _ (W1.setCell ⟨w.heap.size + 1, 0, none⟩ (.int .i64 0)) := S2
  obtain ⟨W2, hW2⟩ : ∃ W, W = W1.setCell ⟨w.heap.size + 1, 0, none⟩ (.int .i64 0) := ⟨_, rfl⟩
  rw [← hW2] at S2
  have C0 := hid (HS1.out.b.cell (cm_at HS1.out.y1 HS1.out.y2).1)
  have F0 := hid (HS1.out.b.frozen 0)
  have HW2 := hid hW2
  have S2 := hid S2
  clear hW2
  have S3 := S2.out.set 30 (.int .i64 0) (cm_sets S2.out.y1 S2.out.y2 0 0#32).2.1 S2.out.y1 S2.out.y2
  have S3 : CkSt w x _ (W2.setCell ⟨w.heap.size + 1, 30, none⟩ (.int .i64 0)) := S3
  obtain ⟨W3, hW3⟩ : ∃ W, W = W2.setCell ⟨w.heap.size + 1, 30, none⟩ (.int .i64 0) := ⟨_, rfl⟩
  rw [← hW3] at S3
  have C30 := hid (S2.out.b.cell (cm_at S2.out.y1 S2.out.y2).2.1)
  have F30 := hid (S2.out.b.frozen 30)
  have HW3 := hid hW3
  have S3 := hid S3
  clear hW3
  have HS4 := S3.out.set 31 (.int .i64 0) (cm_sets S3.out.y1 S3.out.y2 0 0#32).2.2.1 S3.out.y1 S3.out.y2
  have HS4 : CkSt w x (y4 x) (W3.setCell ⟨w.heap.size + 1, 31, none⟩ (.int .i64 0)) := HS4
  obtain ⟨W4, hW4⟩ : ∃ W, W = W3.setCell ⟨w.heap.size + 1, 31, none⟩ (.int .i64 0) := ⟨_, rfl⟩
  rw [← hW4] at HS4
  have C31 := hid (S3.out.b.cell (cm_at S3.out.y1 S3.out.y2).2.2.1)
  have F31 := hid (S3.out.b.frozen 31)
  have HW4 := hid hW4
  have HS4 := hid HS4
  clear hW4
  have ka_kd := S2.out.a.cell HPX.out.1
  have ka_30 := S2.out.a.cell HPX.out.2.1
  have ka_31 := S2.out.a.cell HPX.out.2.2.1
  have kd_kd := HS4.out.a.cell HPX.out.1
  have HONP := hid (all_oneCell_toArray (pcells_one 0 0 zeros))
  have bg : decide (0 ≤ x.dv) = true := by simp [hg]
  have bl : decide (x.dv < 6) = true := by simp [hl]
  have HAQ : Hid (∀ wx : World, Calls Tryz.prog 43 #[.int .i64 x.rq] wx fun e w' => e = .returned (.bool true) ∧ wx = w') := Lib.hid (fun wx => by
    have h0 := cabove_any x.rq wx
    rwa [decide_eq_true hq] at h0)
  have HAI : Hid (∀ wx : World, Calls Tryz.prog 43 #[.int .i64 x.id] wx fun e w' => e = .returned (.bool true) ∧ wx = w') := Lib.hid (fun wx => by
    have h0 := cabove_any x.id wx
    rwa [decide_eq_true hi] at h0)
  have bx : decide (x.id < 1073741824) = true := by simp [hx]
  have HAB : Hid (∀ wx : World, Calls Tryz.prog 43 #[.int .i64 x.bs] wx fun e w' => e = .returned (.bool true) ∧ wx = w') := Lib.hid (fun wx => by
    have h0 := cabove_any x.bs wx
    rwa [decide_eq_true hb] at h0)
  have HPC : Hid (∀ wx : World, Calls Tryz.prog 44 #[.agg (cmP x).toArray] wx fun e w' => e = .returned (.int .i64 (pchk x.pm (x.pl.toNat : Int) x.pf)) ∧ Below wx.heap.size wx w') := hid (fun wx => pcheck_any x.pm (x.pl.toNat : Int) x.pf wx h.p8)
  have HPL := hid (cmP_len h.p8)
  have RP := HS4.out.a.range 35 (cmP x) (cm_patch h.e8 h.p8)
  obtain ⟨xp, hxp⟩ : ∃ c, c = cmP x := ⟨_, rfl⟩
  obtain ⟨ip, hip⟩ : ∃ c, c = pchk x.pm (x.pl.toNat : Int) x.pf := ⟨_, rfl⟩
  rw [← hxp] at HPC HPL RP
  rw [← hip] at HPC
  have HIP := hid hip
  clear hip hxp
  have b0 : (ip == 0) = false := by rw [HIP.out]; simp [hp]
  have ka_32 := HS4.out.a.cell HPX.out.2.2.2.1
  have ka_33 := HS4.out.a.cell HPX.out.2.2.2.2.1
  go_enter Tryz.func18, Tryz.ntmps18
  go_wp2_with (first
    | (refine wpList_load_mid rfl 41 (.tmp 1) rfl w.heap.size 0 rfl xc _ RG0 huc rfl (by rw [HLC.out]; exact info_cm) ?_
       simp only [pq4])
    | (refine wpList_store_asC rfl 41 (.tmp 3) (.tmp 5) rfl (w.heap.size + 1) 0 xc.toArray rfl rfl (by simpa [HLC.out] using TH1) (by simpa [HLC.out] using info_cm) HON.out W1 HW1.out ?_)
    | (refine wpList_store_i rfl 3 (.tmp 6) (.const (.int .i64 0)) rfl (w.heap.size + 1) 0 .i64 0 rfl rfl _ info_i C0.out F0.out W2 HW2.out ?_)
    | fail)
  refine (HAQ.out _).mono ?_
  rintro e wq ⟨rfl, rfl⟩
  go_wp2_with (first
    | (refine wpList_store_i rfl 3 (.tmp 45) (.const (.int .i64 0)) rfl (w.heap.size + 1) 30 .i64 0 rfl rfl _ info_i C30.out F30.out W3 HW3.out ?_)
    | (refine wpList_store_i rfl 3 (.tmp 46) (.const (.int .i64 0)) rfl (w.heap.size + 1) 31 .i64 0 rfl rfl _ info_i C31.out F31.out W4 HW4.out ?_)
    | fail)
  refine (HAI.out _).mono ?_
  rintro e wq ⟨rfl, rfl⟩
  go_wp2_with fail
  refine (HAB.out _).mono ?_
  rintro e wq ⟨rfl, rfl⟩
  go_wp2_with (first
    | (refine wpList_load_g (by rfl) 36 (.tmp 68) rfl w.heap.size 35 rfl xp _ RP hup rfl (by rw [HPL.out]; exact info_patch) ?_; simp only [pq4])
    | fail)
  refine (HPC.out _).mono ?_
  rintro e w5 ⟨rfl, hb5⟩
  have HS5 := hid (HS4.out.later hb5)
  clear kd_kd ka_kd ka_30 ka_31 ka_32 ka_33 hb5
  have S5 := HS5.out.set 32 (.int .i64 0) (cm_sets HS5.out.y1 HS5.out.y2 0 0#32).2.2.2.1 HS5.out.y1 HS5.out.y2
  have S5 : CkSt w x _ (w5.setCell ⟨w.heap.size + 1, 32, none⟩ (.int .i64 0)) := S5
  obtain ⟨W5, hW5⟩ : ∃ W, W = w5.setCell ⟨w.heap.size + 1, 32, none⟩ (.int .i64 0) := ⟨_, rfl⟩
  rw [← hW5] at S5
  have C32 := hid (HS5.out.b.cell (cm_at HS5.out.y1 HS5.out.y2).2.2.2.1)
  have F32 := hid (HS5.out.b.frozen 32)
  have HW5 := hid hW5
  have S5 := hid S5
  clear hW5
  have S6 := S5.out.set 33 (.int .i64 0) (cm_sets S5.out.y1 S5.out.y2 0 0#32).2.2.2.2.1 S5.out.y1 S5.out.y2
  have S6 : CkSt w x _ (W5.setCell ⟨w.heap.size + 1, 33, none⟩ (.int .i64 0)) := S6
  obtain ⟨W6, hW6⟩ : ∃ W, W = W5.setCell ⟨w.heap.size + 1, 33, none⟩ (.int .i64 0) := ⟨_, rfl⟩
  rw [← hW6] at S6
  have C33 := hid (S5.out.b.cell (cm_at S5.out.y1 S5.out.y2).2.2.2.2.1)
  have F33 := hid (S5.out.b.frozen 33)
  have HW6 := hid hW6
  have S6 := hid S6
  clear hW6
  have hs7 := S6.out.setP
  have THP := S6.out.b.there 35 26 (by rw [cmc_len S6.out.y1 S6.out.y2]; omega)
  obtain ⟨W7, hW7⟩ : ∃ W7, W7 = W6.setCells (w.heap.size + 1) 35 (pcells 0 0 zeros) := ⟨_, rfl⟩
  rw [← hW7] at hs7
  have hs7 : CkSt w x (y2 x) W7 := hs7
  have HS7 := hid hs7
  have HW7 := hid hW7
  clear hs7 hW7
  have hHT : R = false := by rw [HR.out]; exact decide_eq_false (fun z => hp ((cok_2 hk).1 z).2.2.2.2.1)
  have HT := hid hHT
  clear hHT
  have HBE := hid HS7.out.be
  clear hk
  go_wp2_with (first
    | (refine wpList_store_i rfl 3 (.tmp 74) (.const (.int .i64 0)) rfl (w.heap.size + 1) 32 .i64 0 rfl rfl _ info_i C32.out F32.out W5 HW5.out ?_)
    | (refine wpList_store_i rfl 3 (.tmp 75) (.const (.int .i64 0)) rfl (w.heap.size + 1) 33 .i64 0 rfl rfl _ info_i C33.out F33.out W6 HW6.out ?_)
    | (refine wpList_store_asC rfl 36 (.tmp 76) (.tmp 73) rfl (w.heap.size + 1) 35 (pcells 0 0 zeros).toArray rfl rfl THP info_patch HONP.out W7 HW7.out ?_)
    | fail)
  go_ret
  exact ⟨by first | rfl | (rw [HT.out]; rfl), HBE.out⟩
theorem ccheck_2h (x : Cm) (w : World) (h : okCm w x) (hk : x.kd = 2) (hg : 0 ≤ x.dv) (hl : x.dv < 6) (hq : 1 ≤ x.rq ∧ x.rq ≤ 1099511627776) (hi : 1 ≤ x.id ∧ x.id ≤ 1099511627776) (hx : x.id < 1073741824) (hb : 1 ≤ x.bs ∧ x.bs ≤ 1099511627776) (hp : pchk x.pm (x.pl.toNat : Int) x.pf = 0) :
    Calls Tryz.prog 18 #[.agg (cmc x).toArray] w fun e w' => e = .returned (.bool (decide (cok x))) ∧ Below w.heap.size w w' := by
  have hue := Tryz.underlying38
  have hup := Tryz.underlying36
  have huc := Tryz.underlying41
  obtain ⟨hs1, hth⟩ := CkSt.new w x h.e8 h.p8
  have B0 := Blk.new w (cmc x) 41
  have RG0 := B0.range 0 (cmc x) (by rw [List.drop_zero, List.take_length])
  have honc := all_oneCell_toArray (cmc_one x)
  have HLC := hid (cmc_len h.e8 h.p8)
  have HPX := hid (cm_at h.e8 h.p8)
  obtain ⟨xc, hxc⟩ : ∃ c, c = cmc x := ⟨_, rfl⟩
  obtain ⟨W1, hW1⟩ : ∃ W1, W1 = ((w.alloc (.cells (cmc x).toArray 41)).alloc (.cells zA63 41)).setCells (w.heap.size + 1) 0 (cmc x) := ⟨_, rfl⟩
  rw [← hW1] at hs1
  rw [← hxc] at hW1 RG0 honc HLC hth ⊢
  have HS1 := hid hs1
  have HW1 := hid hW1
  have HON := hid honc
  have TH1 := hth
  obtain ⟨R, hR⟩ : ∃ R, R = decide (cok x) := ⟨_, rfl⟩
  rw [← hR]
  have HR := hid hR
  have e1 : (x.kd == 1) = false := by rw [hk]; rfl
  have e5 : (x.kd == 5) = false := by rw [hk]; rfl
  have e2 : (x.kd == 2) = true := by rw [hk]; rfl
  have e3 : (x.kd == 3) = false := by rw [hk]; rfl
  have e4 : (x.kd == 4) = false := by rw [hk]; rfl
  have ka_kd := HS1.out.a.cell HPX.out.1
  have kb_kd := HS1.out.b.cell (cm_at HS1.out.y1 HS1.out.y2).1
  have kf_kd := HS1.out.b.frozen 0
  clear hs1 hth hxc hW1 honc hR B0
  clear ka_kd kb_kd kf_kd
  have S2 := HS1.out.set 0 (.int .i64 0) (cm_sets HS1.out.y1 HS1.out.y2 0 0#32).1 HS1.out.y1 HS1.out.y2
  have S2 : CkSt w x _ (W1.setCell ⟨w.heap.size + 1, 0, none⟩ (.int .i64 0)) := S2
  obtain ⟨W2, hW2⟩ : ∃ W, W = W1.setCell ⟨w.heap.size + 1, 0, none⟩ (.int .i64 0) := ⟨_, rfl⟩
  rw [← hW2] at S2
  have C0 := hid (HS1.out.b.cell (cm_at HS1.out.y1 HS1.out.y2).1)
  have F0 := hid (HS1.out.b.frozen 0)
  have HW2 := hid hW2
  have S2 := hid S2
  clear hW2
  have S3 := S2.out.set 30 (.int .i64 0) (cm_sets S2.out.y1 S2.out.y2 0 0#32).2.1 S2.out.y1 S2.out.y2
  have S3 : CkSt w x _ (W2.setCell ⟨w.heap.size + 1, 30, none⟩ (.int .i64 0)) := S3
  obtain ⟨W3, hW3⟩ : ∃ W, W = W2.setCell ⟨w.heap.size + 1, 30, none⟩ (.int .i64 0) := ⟨_, rfl⟩
  rw [← hW3] at S3
  have C30 := hid (S2.out.b.cell (cm_at S2.out.y1 S2.out.y2).2.1)
  have F30 := hid (S2.out.b.frozen 30)
  have HW3 := hid hW3
  have S3 := hid S3
  clear hW3
  have HS4 := S3.out.set 31 (.int .i64 0) (cm_sets S3.out.y1 S3.out.y2 0 0#32).2.2.1 S3.out.y1 S3.out.y2
  have HS4 : CkSt w x (y4 x) (W3.setCell ⟨w.heap.size + 1, 31, none⟩ (.int .i64 0)) := HS4
  obtain ⟨W4, hW4⟩ : ∃ W, W = W3.setCell ⟨w.heap.size + 1, 31, none⟩ (.int .i64 0) := ⟨_, rfl⟩
  rw [← hW4] at HS4
  have C31 := hid (S3.out.b.cell (cm_at S3.out.y1 S3.out.y2).2.2.1)
  have F31 := hid (S3.out.b.frozen 31)
  have HW4 := hid hW4
  have HS4 := hid HS4
  clear hW4
  have ka_kd := S2.out.a.cell HPX.out.1
  have ka_30 := S2.out.a.cell HPX.out.2.1
  have ka_31 := S2.out.a.cell HPX.out.2.2.1
  have kd_kd := HS4.out.a.cell HPX.out.1
  have HONP := hid (all_oneCell_toArray (pcells_one 0 0 zeros))
  have bg : decide (0 ≤ x.dv) = true := by simp [hg]
  have bl : decide (x.dv < 6) = true := by simp [hl]
  have HAQ : Hid (∀ wx : World, Calls Tryz.prog 43 #[.int .i64 x.rq] wx fun e w' => e = .returned (.bool true) ∧ wx = w') := Lib.hid (fun wx => by
    have h0 := cabove_any x.rq wx
    rwa [decide_eq_true hq] at h0)
  have HAI : Hid (∀ wx : World, Calls Tryz.prog 43 #[.int .i64 x.id] wx fun e w' => e = .returned (.bool true) ∧ wx = w') := Lib.hid (fun wx => by
    have h0 := cabove_any x.id wx
    rwa [decide_eq_true hi] at h0)
  have bx : decide (x.id < 1073741824) = true := by simp [hx]
  have HAB : Hid (∀ wx : World, Calls Tryz.prog 43 #[.int .i64 x.bs] wx fun e w' => e = .returned (.bool true) ∧ wx = w') := Lib.hid (fun wx => by
    have h0 := cabove_any x.bs wx
    rwa [decide_eq_true hb] at h0)
  have HPC : Hid (∀ wx : World, Calls Tryz.prog 44 #[.agg (cmP x).toArray] wx fun e w' => e = .returned (.int .i64 (pchk x.pm (x.pl.toNat : Int) x.pf)) ∧ Below wx.heap.size wx w') := hid (fun wx => pcheck_any x.pm (x.pl.toNat : Int) x.pf wx h.p8)
  have HPL := hid (cmP_len h.p8)
  have RP := HS4.out.a.range 35 (cmP x) (cm_patch h.e8 h.p8)
  obtain ⟨xp, hxp⟩ : ∃ c, c = cmP x := ⟨_, rfl⟩
  obtain ⟨ip, hip⟩ : ∃ c, c = pchk x.pm (x.pl.toNat : Int) x.pf := ⟨_, rfl⟩
  rw [← hxp] at HPC HPL RP
  rw [← hip] at HPC
  have HIP := hid hip
  clear hip hxp
  have b0 : (ip == 0) = true := by rw [HIP.out]; simp [hp]
  have ka_32 := HS4.out.a.cell HPX.out.2.2.2.1
  have ka_33 := HS4.out.a.cell HPX.out.2.2.2.2.1
  go_enter Tryz.func18, Tryz.ntmps18
  go_wp2_with (first
    | (refine wpList_load_mid rfl 41 (.tmp 1) rfl w.heap.size 0 rfl xc _ RG0 huc rfl (by rw [HLC.out]; exact info_cm) ?_
       simp only [pq4])
    | (refine wpList_store_asC rfl 41 (.tmp 3) (.tmp 5) rfl (w.heap.size + 1) 0 xc.toArray rfl rfl (by simpa [HLC.out] using TH1) (by simpa [HLC.out] using info_cm) HON.out W1 HW1.out ?_)
    | (refine wpList_store_i rfl 3 (.tmp 6) (.const (.int .i64 0)) rfl (w.heap.size + 1) 0 .i64 0 rfl rfl _ info_i C0.out F0.out W2 HW2.out ?_)
    | fail)
  refine (HAQ.out _).mono ?_
  rintro e wq ⟨rfl, rfl⟩
  go_wp2_with (first
    | (refine wpList_store_i rfl 3 (.tmp 45) (.const (.int .i64 0)) rfl (w.heap.size + 1) 30 .i64 0 rfl rfl _ info_i C30.out F30.out W3 HW3.out ?_)
    | (refine wpList_store_i rfl 3 (.tmp 46) (.const (.int .i64 0)) rfl (w.heap.size + 1) 31 .i64 0 rfl rfl _ info_i C31.out F31.out W4 HW4.out ?_)
    | fail)
  refine (HAI.out _).mono ?_
  rintro e wq ⟨rfl, rfl⟩
  go_wp2_with fail
  refine (HAB.out _).mono ?_
  rintro e wq ⟨rfl, rfl⟩
  go_wp2_with (first
    | (refine wpList_load_g (by rfl) 36 (.tmp 68) rfl w.heap.size 35 rfl xp _ RP hup rfl (by rw [HPL.out]; exact info_patch) ?_; simp only [pq4])
    | fail)
  refine (HPC.out _).mono ?_
  rintro e w5 ⟨rfl, hb5⟩
  have HS5 := hid (HS4.out.later hb5)
  clear kd_kd ka_kd ka_30 ka_31 ka_32 ka_33 hb5
  have S5 := HS5.out.set 32 (.int .i64 0) (cm_sets HS5.out.y1 HS5.out.y2 0 0#32).2.2.2.1 HS5.out.y1 HS5.out.y2
  have S5 : CkSt w x _ (w5.setCell ⟨w.heap.size + 1, 32, none⟩ (.int .i64 0)) := S5
  obtain ⟨W5, hW5⟩ : ∃ W, W = w5.setCell ⟨w.heap.size + 1, 32, none⟩ (.int .i64 0) := ⟨_, rfl⟩
  rw [← hW5] at S5
  have C32 := hid (HS5.out.b.cell (cm_at HS5.out.y1 HS5.out.y2).2.2.2.1)
  have F32 := hid (HS5.out.b.frozen 32)
  have HW5 := hid hW5
  have S5 := hid S5
  clear hW5
  have S6 := S5.out.set 33 (.int .i64 0) (cm_sets S5.out.y1 S5.out.y2 0 0#32).2.2.2.2.1 S5.out.y1 S5.out.y2
  have S6 : CkSt w x _ (W5.setCell ⟨w.heap.size + 1, 33, none⟩ (.int .i64 0)) := S6
  obtain ⟨W6, hW6⟩ : ∃ W, W = W5.setCell ⟨w.heap.size + 1, 33, none⟩ (.int .i64 0) := ⟨_, rfl⟩
  rw [← hW6] at S6
  have C33 := hid (S5.out.b.cell (cm_at S5.out.y1 S5.out.y2).2.2.2.2.1)
  have F33 := hid (S5.out.b.frozen 33)
  have HW6 := hid hW6
  have S6 := hid S6
  clear hW6
  have hs7 := S6.out.setP
  have THP := S6.out.b.there 35 26 (by rw [cmc_len S6.out.y1 S6.out.y2]; omega)
  obtain ⟨W7, hW7⟩ : ∃ W7, W7 = W6.setCells (w.heap.size + 1) 35 (pcells 0 0 zeros) := ⟨_, rfl⟩
  rw [← hW7] at hs7
  have hs7 : CkSt w x (y2 x) W7 := hs7
  have HS7 := hid hs7
  have HW7 := hid hW7
  clear hs7 hW7
  have hzz := czero_any (y2 x) _ ⟨HS7.out.y1, HS7.out.y2, h.len, h.cap, h.max, ((h.see.below HS7.out.be).more HS7.out.be.size)⟩
  have RGZ := HS7.out.b.range 0 (cmc (y2 x)) (by rw [List.drop_zero, List.take_length])
  have HLZ := hid (cmc_len HS7.out.y1 HS7.out.y2)
  obtain ⟨yc, hyc⟩ : ∃ c, c = cmc (y2 x) := ⟨_, rfl⟩
  obtain ⟨zr, hzr⟩ : ∃ b, b = decide (cz (y2 x)) := ⟨_, rfl⟩
  rw [← hyc] at hzz RGZ HLZ
  rw [← hzr] at hzz
  have hHT : R = zr := by rw [HR.out, hzr]; exact decide_eq_decide.2 ((cok_2 hk).trans ⟨fun z => z.2.2.2.2.2, fun z => ⟨⟨hg, hl⟩, hq, ⟨hi.1, hx⟩, hb, hp, z⟩⟩)
  have HZZ := hid hzz
  have HT := hid hHT
  have HBE := hid HS7.out.be
  clear hzz hyc hzr hHT
  clear hk
  go_wp2_with (first
    | (refine wpList_store_i rfl 3 (.tmp 74) (.const (.int .i64 0)) rfl (w.heap.size + 1) 32 .i64 0 rfl rfl _ info_i C32.out F32.out W5 HW5.out ?_)
    | (refine wpList_store_i rfl 3 (.tmp 75) (.const (.int .i64 0)) rfl (w.heap.size + 1) 33 .i64 0 rfl rfl _ info_i C33.out F33.out W6 HW6.out ?_)
    | (refine wpList_store_asC rfl 36 (.tmp 76) (.tmp 73) rfl (w.heap.size + 1) 35 (pcells 0 0 zeros).toArray rfl rfl THP info_patch HONP.out W7 HW7.out ?_)
    | (refine wpList_load_g (by rfl) 41 (.tmp 3) rfl (w.heap.size + 1) 0 rfl yc _ RGZ huc rfl (by rw [HLZ.out]; exact info_cm) ?_; simp only [pq4])
    | fail)
  refine HZZ.out.mono ?_
  rintro e w9 ⟨rfl, hb9⟩
  have HB9 := hid (HBE.out.trans (hb9.mono HBE.out.size))
  clear hb9
  go_wp2_with fail
  go_ret
  exact ⟨by first | rfl | (rw [HT.out]; rfl), HB9.out⟩
theorem ccheck_2 (x : Cm) (w : World) (h : okCm w x) (hk : x.kd = 2) :
    Calls Tryz.prog 18 #[.agg (cmc x).toArray] w fun e w' => e = .returned (.bool (decide (cok x))) ∧ Below w.heap.size w w' := by
  by_cases hg : 0 ≤ x.dv
  case neg => exact ccheck_2a x w h hk hg
  by_cases hl : x.dv < 6
  case neg => exact ccheck_2b x w h hk hg hl
  by_cases hq : 1 ≤ x.rq ∧ x.rq ≤ 1099511627776
  case neg => exact ccheck_2c x w h hk hg hl hq
  by_cases hi : 1 ≤ x.id ∧ x.id ≤ 1099511627776
  case neg => exact ccheck_2d x w h hk hg hl hq hi
  by_cases hx : x.id < 1073741824
  case neg => exact ccheck_2e x w h hk hg hl hq hi hx
  by_cases hb : 1 ≤ x.bs ∧ x.bs ≤ 1099511627776
  case neg => exact ccheck_2f x w h hk hg hl hq hi hx hb
  by_cases hp : pchk x.pm (x.pl.toNat : Int) x.pf = 0
  case neg => exact ccheck_2g x w h hk hg hl hq hi hx hb hp
  exact ccheck_2h x w h hk hg hl hq hi hx hb hp
theorem ccheck_3a (x : Cm) (w : World) (h : okCm w x) (hk : x.kd = 3) (hg : ¬ (0 ≤ x.dv)) :
    Calls Tryz.prog 18 #[.agg (cmc x).toArray] w fun e w' => e = .returned (.bool (decide (cok x))) ∧ Below w.heap.size w w' := by
  have hue := Tryz.underlying38
  have hup := Tryz.underlying36
  have huc := Tryz.underlying41
  obtain ⟨hs1, hth⟩ := CkSt.new w x h.e8 h.p8
  have B0 := Blk.new w (cmc x) 41
  have RG0 := B0.range 0 (cmc x) (by rw [List.drop_zero, List.take_length])
  have honc := all_oneCell_toArray (cmc_one x)
  have HLC := hid (cmc_len h.e8 h.p8)
  have HPX := hid (cm_at h.e8 h.p8)
  obtain ⟨xc, hxc⟩ : ∃ c, c = cmc x := ⟨_, rfl⟩
  obtain ⟨W1, hW1⟩ : ∃ W1, W1 = ((w.alloc (.cells (cmc x).toArray 41)).alloc (.cells zA63 41)).setCells (w.heap.size + 1) 0 (cmc x) := ⟨_, rfl⟩
  rw [← hW1] at hs1
  rw [← hxc] at hW1 RG0 honc HLC hth ⊢
  have HS1 := hid hs1
  have HW1 := hid hW1
  have HON := hid honc
  have TH1 := hth
  obtain ⟨R, hR⟩ : ∃ R, R = decide (cok x) := ⟨_, rfl⟩
  rw [← hR]
  have HR := hid hR
  have e1 : (x.kd == 1) = false := by rw [hk]; rfl
  have e5 : (x.kd == 5) = false := by rw [hk]; rfl
  have e2 : (x.kd == 2) = false := by rw [hk]; rfl
  have e3 : (x.kd == 3) = true := by rw [hk]; rfl
  have e4 : (x.kd == 4) = false := by rw [hk]; rfl
  have ka_kd := HS1.out.a.cell HPX.out.1
  have kb_kd := HS1.out.b.cell (cm_at HS1.out.y1 HS1.out.y2).1
  have kf_kd := HS1.out.b.frozen 0
  clear hs1 hth hxc hW1 honc hR B0
  clear ka_kd kb_kd kf_kd
  have S2 := HS1.out.set 0 (.int .i64 0) (cm_sets HS1.out.y1 HS1.out.y2 0 0#32).1 HS1.out.y1 HS1.out.y2
  have S2 : CkSt w x _ (W1.setCell ⟨w.heap.size + 1, 0, none⟩ (.int .i64 0)) := S2
  obtain ⟨W2, hW2⟩ : ∃ W, W = W1.setCell ⟨w.heap.size + 1, 0, none⟩ (.int .i64 0) := ⟨_, rfl⟩
  rw [← hW2] at S2
  have C0 := hid (HS1.out.b.cell (cm_at HS1.out.y1 HS1.out.y2).1)
  have F0 := hid (HS1.out.b.frozen 0)
  have HW2 := hid hW2
  have S2 := hid S2
  clear hW2
  have S3 := S2.out.set 30 (.int .i64 0) (cm_sets S2.out.y1 S2.out.y2 0 0#32).2.1 S2.out.y1 S2.out.y2
  have S3 : CkSt w x _ (W2.setCell ⟨w.heap.size + 1, 30, none⟩ (.int .i64 0)) := S3
  obtain ⟨W3, hW3⟩ : ∃ W, W = W2.setCell ⟨w.heap.size + 1, 30, none⟩ (.int .i64 0) := ⟨_, rfl⟩
  rw [← hW3] at S3
  have C30 := hid (S2.out.b.cell (cm_at S2.out.y1 S2.out.y2).2.1)
  have F30 := hid (S2.out.b.frozen 30)
  have HW3 := hid hW3
  have S3 := hid S3
  clear hW3
  have HS4 := S3.out.set 31 (.int .i64 0) (cm_sets S3.out.y1 S3.out.y2 0 0#32).2.2.1 S3.out.y1 S3.out.y2
  have HS4 : CkSt w x (y4 x) (W3.setCell ⟨w.heap.size + 1, 31, none⟩ (.int .i64 0)) := HS4
  obtain ⟨W4, hW4⟩ : ∃ W, W = W3.setCell ⟨w.heap.size + 1, 31, none⟩ (.int .i64 0) := ⟨_, rfl⟩
  rw [← hW4] at HS4
  have C31 := hid (S3.out.b.cell (cm_at S3.out.y1 S3.out.y2).2.2.1)
  have F31 := hid (S3.out.b.frozen 31)
  have HW4 := hid hW4
  have HS4 := hid HS4
  clear hW4
  have ka_kd := S2.out.a.cell HPX.out.1
  have ka_30 := S2.out.a.cell HPX.out.2.1
  have ka_31 := S2.out.a.cell HPX.out.2.2.1
  have kd_kd := HS4.out.a.cell HPX.out.1
  have bg : decide (0 ≤ x.dv) = false := by simp [hg]
  have S5 := HS4.out.set 61 (.slice none 0 0) (cm_sets HS4.out.y1 HS4.out.y2 0 0#32).2.2.2.2.2.2.1 HS4.out.y1 HS4.out.y2
  have S5 : CkSt w x _ (W4.setCell ⟨w.heap.size + 1, 61, none⟩ (.slice none 0 0)) := S5
  obtain ⟨W5, hW5⟩ : ∃ W, W = W4.setCell ⟨w.heap.size + 1, 61, none⟩ (.slice none 0 0) := ⟨_, rfl⟩
  rw [← hW5] at S5
  have C61 := hid (HS4.out.b.cell (cm_at HS4.out.y1 HS4.out.y2).2.2.2.2.2.2.1)
  have F61 := hid (HS4.out.b.frozen 61)
  have HW5 := hid hW5
  have S5 := hid S5
  clear hW5
  have HS6 := S5.out.set 62 (.int .u32 ((0#32 : BitVec 32).toNat : Int)) (cm_sets S5.out.y1 S5.out.y2 0 0#32).2.2.2.2.2.2.2 S5.out.y1 S5.out.y2
  have HS6 : CkSt w x (y3 x) (W5.setCell ⟨w.heap.size + 1, 62, none⟩ (.int .u32 0)) := HS6
  obtain ⟨W6, hW6⟩ : ∃ W, W = W5.setCell ⟨w.heap.size + 1, 62, none⟩ (.int .u32 0) := ⟨_, rfl⟩
  rw [← hW6] at HS6
  have C62 := hid (S5.out.b.cell (cm_at S5.out.y1 S5.out.y2).2.2.2.2.2.2.2)
  have F62 := hid (S5.out.b.frozen 62)
  have HW6 := hid hW6
  have HS6 := hid HS6
  clear hW6
  have hHT : R = false := by rw [HR.out]; exact decide_eq_false (fun z => hg ((cok_3 hk).1 z).1.1)
  have HT := hid hHT
  clear hHT
  have HBE := hid HS6.out.be
  clear hk
  go_enter Tryz.func18, Tryz.ntmps18
  go_wp2_with (first
    | (refine wpList_load_mid rfl 41 (.tmp 1) rfl w.heap.size 0 rfl xc _ RG0 huc rfl (by rw [HLC.out]; exact info_cm) ?_
       simp only [pq4])
    | (refine wpList_store_asC rfl 41 (.tmp 3) (.tmp 5) rfl (w.heap.size + 1) 0 xc.toArray rfl rfl (by simpa [HLC.out] using TH1) (by simpa [HLC.out] using info_cm) HON.out W1 HW1.out ?_)
    | (refine wpList_store_i rfl 3 (.tmp 6) (.const (.int .i64 0)) rfl (w.heap.size + 1) 0 .i64 0 rfl rfl _ info_i C0.out F0.out W2 HW2.out ?_)
    | (refine wpList_store_i rfl 3 (.tmp 45) (.const (.int .i64 0)) rfl (w.heap.size + 1) 30 .i64 0 rfl rfl _ info_i C30.out F30.out W3 HW3.out ?_)
    | (refine wpList_store_i rfl 3 (.tmp 46) (.const (.int .i64 0)) rfl (w.heap.size + 1) 31 .i64 0 rfl rfl _ info_i C31.out F31.out W4 HW4.out ?_)
    | (refine wpList_store_s rfl 39 (.tmp 91) (.const (.slice none 0 0)) rfl (w.heap.size + 1) 61 none 0 0 rfl rfl _ info_f C61.out F61.out W5 HW5.out ?_)
    | (refine wpList_store_i rfl 31 (.tmp 92) (.const (.int .u32 0)) rfl (w.heap.size + 1) 62 .u32 0 rfl rfl _ info_m C62.out F62.out W6 HW6.out ?_)
    | fail)
  go_ret
  exact ⟨by first | rfl | (rw [HT.out]; rfl), HBE.out⟩
theorem ccheck_3b (x : Cm) (w : World) (h : okCm w x) (hk : x.kd = 3) (hg : 0 ≤ x.dv) (hl : ¬ (x.dv < 6)) :
    Calls Tryz.prog 18 #[.agg (cmc x).toArray] w fun e w' => e = .returned (.bool (decide (cok x))) ∧ Below w.heap.size w w' := by
  have hue := Tryz.underlying38
  have hup := Tryz.underlying36
  have huc := Tryz.underlying41
  obtain ⟨hs1, hth⟩ := CkSt.new w x h.e8 h.p8
  have B0 := Blk.new w (cmc x) 41
  have RG0 := B0.range 0 (cmc x) (by rw [List.drop_zero, List.take_length])
  have honc := all_oneCell_toArray (cmc_one x)
  have HLC := hid (cmc_len h.e8 h.p8)
  have HPX := hid (cm_at h.e8 h.p8)
  obtain ⟨xc, hxc⟩ : ∃ c, c = cmc x := ⟨_, rfl⟩
  obtain ⟨W1, hW1⟩ : ∃ W1, W1 = ((w.alloc (.cells (cmc x).toArray 41)).alloc (.cells zA63 41)).setCells (w.heap.size + 1) 0 (cmc x) := ⟨_, rfl⟩
  rw [← hW1] at hs1
  rw [← hxc] at hW1 RG0 honc HLC hth ⊢
  have HS1 := hid hs1
  have HW1 := hid hW1
  have HON := hid honc
  have TH1 := hth
  obtain ⟨R, hR⟩ : ∃ R, R = decide (cok x) := ⟨_, rfl⟩
  rw [← hR]
  have HR := hid hR
  have e1 : (x.kd == 1) = false := by rw [hk]; rfl
  have e5 : (x.kd == 5) = false := by rw [hk]; rfl
  have e2 : (x.kd == 2) = false := by rw [hk]; rfl
  have e3 : (x.kd == 3) = true := by rw [hk]; rfl
  have e4 : (x.kd == 4) = false := by rw [hk]; rfl
  have ka_kd := HS1.out.a.cell HPX.out.1
  have kb_kd := HS1.out.b.cell (cm_at HS1.out.y1 HS1.out.y2).1
  have kf_kd := HS1.out.b.frozen 0
  clear hs1 hth hxc hW1 honc hR B0
  clear ka_kd kb_kd kf_kd
  have S2 := HS1.out.set 0 (.int .i64 0) (cm_sets HS1.out.y1 HS1.out.y2 0 0#32).1 HS1.out.y1 HS1.out.y2
  have S2 : CkSt w x _ (W1.setCell ⟨w.heap.size + 1, 0, none⟩ (.int .i64 0)) := S2
  obtain ⟨W2, hW2⟩ : ∃ W, W = W1.setCell ⟨w.heap.size + 1, 0, none⟩ (.int .i64 0) := ⟨_, rfl⟩
  rw [← hW2] at S2
  have C0 := hid (HS1.out.b.cell (cm_at HS1.out.y1 HS1.out.y2).1)
  have F0 := hid (HS1.out.b.frozen 0)
  have HW2 := hid hW2
  have S2 := hid S2
  clear hW2
  have S3 := S2.out.set 30 (.int .i64 0) (cm_sets S2.out.y1 S2.out.y2 0 0#32).2.1 S2.out.y1 S2.out.y2
  have S3 : CkSt w x _ (W2.setCell ⟨w.heap.size + 1, 30, none⟩ (.int .i64 0)) := S3
  obtain ⟨W3, hW3⟩ : ∃ W, W = W2.setCell ⟨w.heap.size + 1, 30, none⟩ (.int .i64 0) := ⟨_, rfl⟩
  rw [← hW3] at S3
  have C30 := hid (S2.out.b.cell (cm_at S2.out.y1 S2.out.y2).2.1)
  have F30 := hid (S2.out.b.frozen 30)
  have HW3 := hid hW3
  have S3 := hid S3
  clear hW3
  have HS4 := S3.out.set 31 (.int .i64 0) (cm_sets S3.out.y1 S3.out.y2 0 0#32).2.2.1 S3.out.y1 S3.out.y2
  have HS4 : CkSt w x (y4 x) (W3.setCell ⟨w.heap.size + 1, 31, none⟩ (.int .i64 0)) := HS4
  obtain ⟨W4, hW4⟩ : ∃ W, W = W3.setCell ⟨w.heap.size + 1, 31, none⟩ (.int .i64 0) := ⟨_, rfl⟩
  rw [← hW4] at HS4
  have C31 := hid (S3.out.b.cell (cm_at S3.out.y1 S3.out.y2).2.2.1)
  have F31 := hid (S3.out.b.frozen 31)
  have HW4 := hid hW4
  have HS4 := hid HS4
  clear hW4
  have ka_kd := S2.out.a.cell HPX.out.1
  have ka_30 := S2.out.a.cell HPX.out.2.1
  have ka_31 := S2.out.a.cell HPX.out.2.2.1
  have kd_kd := HS4.out.a.cell HPX.out.1
  have bg : decide (0 ≤ x.dv) = true := by simp [hg]
  have bl : decide (x.dv < 6) = false := by simp [hl]
  have S5 := HS4.out.set 61 (.slice none 0 0) (cm_sets HS4.out.y1 HS4.out.y2 0 0#32).2.2.2.2.2.2.1 HS4.out.y1 HS4.out.y2
  have S5 : CkSt w x _ (W4.setCell ⟨w.heap.size + 1, 61, none⟩ (.slice none 0 0)) := S5
  obtain ⟨W5, hW5⟩ : ∃ W, W = W4.setCell ⟨w.heap.size + 1, 61, none⟩ (.slice none 0 0) := ⟨_, rfl⟩
  rw [← hW5] at S5
  have C61 := hid (HS4.out.b.cell (cm_at HS4.out.y1 HS4.out.y2).2.2.2.2.2.2.1)
  have F61 := hid (HS4.out.b.frozen 61)
  have HW5 := hid hW5
  have S5 := hid S5
  clear hW5
  have HS6 := S5.out.set 62 (.int .u32 ((0#32 : BitVec 32).toNat : Int)) (cm_sets S5.out.y1 S5.out.y2 0 0#32).2.2.2.2.2.2.2 S5.out.y1 S5.out.y2
  have HS6 : CkSt w x (y3 x) (W5.setCell ⟨w.heap.size + 1, 62, none⟩ (.int .u32 0)) := HS6
  obtain ⟨W6, hW6⟩ : ∃ W, W = W5.setCell ⟨w.heap.size + 1, 62, none⟩ (.int .u32 0) := ⟨_, rfl⟩
  rw [← hW6] at HS6
  have C62 := hid (S5.out.b.cell (cm_at S5.out.y1 S5.out.y2).2.2.2.2.2.2.2)
  have F62 := hid (S5.out.b.frozen 62)
  have HW6 := hid hW6
  have HS6 := hid HS6
  clear hW6
  have hHT : R = false := by rw [HR.out]; exact decide_eq_false (fun z => hl ((cok_3 hk).1 z).1.2)
  have HT := hid hHT
  clear hHT
  have HBE := hid HS6.out.be
  clear hk
  go_enter Tryz.func18, Tryz.ntmps18
  go_wp2_with (first
    | (refine wpList_load_mid rfl 41 (.tmp 1) rfl w.heap.size 0 rfl xc _ RG0 huc rfl (by rw [HLC.out]; exact info_cm) ?_
       simp only [pq4])
    | (refine wpList_store_asC rfl 41 (.tmp 3) (.tmp 5) rfl (w.heap.size + 1) 0 xc.toArray rfl rfl (by simpa [HLC.out] using TH1) (by simpa [HLC.out] using info_cm) HON.out W1 HW1.out ?_)
    | (refine wpList_store_i rfl 3 (.tmp 6) (.const (.int .i64 0)) rfl (w.heap.size + 1) 0 .i64 0 rfl rfl _ info_i C0.out F0.out W2 HW2.out ?_)
    | (refine wpList_store_i rfl 3 (.tmp 45) (.const (.int .i64 0)) rfl (w.heap.size + 1) 30 .i64 0 rfl rfl _ info_i C30.out F30.out W3 HW3.out ?_)
    | (refine wpList_store_i rfl 3 (.tmp 46) (.const (.int .i64 0)) rfl (w.heap.size + 1) 31 .i64 0 rfl rfl _ info_i C31.out F31.out W4 HW4.out ?_)
    | (refine wpList_store_s rfl 39 (.tmp 91) (.const (.slice none 0 0)) rfl (w.heap.size + 1) 61 none 0 0 rfl rfl _ info_f C61.out F61.out W5 HW5.out ?_)
    | (refine wpList_store_i rfl 31 (.tmp 92) (.const (.int .u32 0)) rfl (w.heap.size + 1) 62 .u32 0 rfl rfl _ info_m C62.out F62.out W6 HW6.out ?_)
    | fail)
  go_ret
  exact ⟨by first | rfl | (rw [HT.out]; rfl), HBE.out⟩
theorem ccheck_3c (x : Cm) (w : World) (h : okCm w x) (hk : x.kd = 3) (hg : 0 ≤ x.dv) (hl : x.dv < 6) (hq : ¬ (1 ≤ x.rq ∧ x.rq ≤ 1099511627776)) :
    Calls Tryz.prog 18 #[.agg (cmc x).toArray] w fun e w' => e = .returned (.bool (decide (cok x))) ∧ Below w.heap.size w w' := by
  have hue := Tryz.underlying38
  have hup := Tryz.underlying36
  have huc := Tryz.underlying41
  obtain ⟨hs1, hth⟩ := CkSt.new w x h.e8 h.p8
  have B0 := Blk.new w (cmc x) 41
  have RG0 := B0.range 0 (cmc x) (by rw [List.drop_zero, List.take_length])
  have honc := all_oneCell_toArray (cmc_one x)
  have HLC := hid (cmc_len h.e8 h.p8)
  have HPX := hid (cm_at h.e8 h.p8)
  obtain ⟨xc, hxc⟩ : ∃ c, c = cmc x := ⟨_, rfl⟩
  obtain ⟨W1, hW1⟩ : ∃ W1, W1 = ((w.alloc (.cells (cmc x).toArray 41)).alloc (.cells zA63 41)).setCells (w.heap.size + 1) 0 (cmc x) := ⟨_, rfl⟩
  rw [← hW1] at hs1
  rw [← hxc] at hW1 RG0 honc HLC hth ⊢
  have HS1 := hid hs1
  have HW1 := hid hW1
  have HON := hid honc
  have TH1 := hth
  obtain ⟨R, hR⟩ : ∃ R, R = decide (cok x) := ⟨_, rfl⟩
  rw [← hR]
  have HR := hid hR
  have e1 : (x.kd == 1) = false := by rw [hk]; rfl
  have e5 : (x.kd == 5) = false := by rw [hk]; rfl
  have e2 : (x.kd == 2) = false := by rw [hk]; rfl
  have e3 : (x.kd == 3) = true := by rw [hk]; rfl
  have e4 : (x.kd == 4) = false := by rw [hk]; rfl
  have ka_kd := HS1.out.a.cell HPX.out.1
  have kb_kd := HS1.out.b.cell (cm_at HS1.out.y1 HS1.out.y2).1
  have kf_kd := HS1.out.b.frozen 0
  clear hs1 hth hxc hW1 honc hR B0
  clear ka_kd kb_kd kf_kd
  have S2 := HS1.out.set 0 (.int .i64 0) (cm_sets HS1.out.y1 HS1.out.y2 0 0#32).1 HS1.out.y1 HS1.out.y2
  have S2 : CkSt w x _ (W1.setCell ⟨w.heap.size + 1, 0, none⟩ (.int .i64 0)) := S2
  obtain ⟨W2, hW2⟩ : ∃ W, W = W1.setCell ⟨w.heap.size + 1, 0, none⟩ (.int .i64 0) := ⟨_, rfl⟩
  rw [← hW2] at S2
  have C0 := hid (HS1.out.b.cell (cm_at HS1.out.y1 HS1.out.y2).1)
  have F0 := hid (HS1.out.b.frozen 0)
  have HW2 := hid hW2
  have S2 := hid S2
  clear hW2
  have S3 := S2.out.set 30 (.int .i64 0) (cm_sets S2.out.y1 S2.out.y2 0 0#32).2.1 S2.out.y1 S2.out.y2
  have S3 : CkSt w x _ (W2.setCell ⟨w.heap.size + 1, 30, none⟩ (.int .i64 0)) := S3
  obtain ⟨W3, hW3⟩ : ∃ W, W = W2.setCell ⟨w.heap.size + 1, 30, none⟩ (.int .i64 0) := ⟨_, rfl⟩
  rw [← hW3] at S3
  have C30 := hid (S2.out.b.cell (cm_at S2.out.y1 S2.out.y2).2.1)
  have F30 := hid (S2.out.b.frozen 30)
  have HW3 := hid hW3
  have S3 := hid S3
  clear hW3
  have HS4 := S3.out.set 31 (.int .i64 0) (cm_sets S3.out.y1 S3.out.y2 0 0#32).2.2.1 S3.out.y1 S3.out.y2
  have HS4 : CkSt w x (y4 x) (W3.setCell ⟨w.heap.size + 1, 31, none⟩ (.int .i64 0)) := HS4
  obtain ⟨W4, hW4⟩ : ∃ W, W = W3.setCell ⟨w.heap.size + 1, 31, none⟩ (.int .i64 0) := ⟨_, rfl⟩
  rw [← hW4] at HS4
  have C31 := hid (S3.out.b.cell (cm_at S3.out.y1 S3.out.y2).2.2.1)
  have F31 := hid (S3.out.b.frozen 31)
  have HW4 := hid hW4
  have HS4 := hid HS4
  clear hW4
  have ka_kd := S2.out.a.cell HPX.out.1
  have ka_30 := S2.out.a.cell HPX.out.2.1
  have ka_31 := S2.out.a.cell HPX.out.2.2.1
  have kd_kd := HS4.out.a.cell HPX.out.1
  have bg : decide (0 ≤ x.dv) = true := by simp [hg]
  have bl : decide (x.dv < 6) = true := by simp [hl]
  have HAQ : Hid (∀ wx : World, Calls Tryz.prog 43 #[.int .i64 x.rq] wx fun e w' => e = .returned (.bool false) ∧ wx = w') := Lib.hid (fun wx => by
    have h0 := cabove_any x.rq wx
    rwa [decide_eq_false hq] at h0)
  have S5 := HS4.out.set 61 (.slice none 0 0) (cm_sets HS4.out.y1 HS4.out.y2 0 0#32).2.2.2.2.2.2.1 HS4.out.y1 HS4.out.y2
  have S5 : CkSt w x _ (W4.setCell ⟨w.heap.size + 1, 61, none⟩ (.slice none 0 0)) := S5
  obtain ⟨W5, hW5⟩ : ∃ W, W = W4.setCell ⟨w.heap.size + 1, 61, none⟩ (.slice none 0 0) := ⟨_, rfl⟩
  rw [← hW5] at S5
  have C61 := hid (HS4.out.b.cell (cm_at HS4.out.y1 HS4.out.y2).2.2.2.2.2.2.1)
  have F61 := hid (HS4.out.b.frozen 61)
  have HW5 := hid hW5
  have S5 := hid S5
  clear hW5
  have HS6 := S5.out.set 62 (.int .u32 ((0#32 : BitVec 32).toNat : Int)) (cm_sets S5.out.y1 S5.out.y2 0 0#32).2.2.2.2.2.2.2 S5.out.y1 S5.out.y2
  have HS6 : CkSt w x (y3 x) (W5.setCell ⟨w.heap.size + 1, 62, none⟩ (.int .u32 0)) := HS6
  obtain ⟨W6, hW6⟩ : ∃ W, W = W5.setCell ⟨w.heap.size + 1, 62, none⟩ (.int .u32 0) := ⟨_, rfl⟩
  rw [← hW6] at HS6
  have C62 := hid (S5.out.b.cell (cm_at S5.out.y1 S5.out.y2).2.2.2.2.2.2.2)
  have F62 := hid (S5.out.b.frozen 62)
  have HW6 := hid hW6
  have HS6 := hid HS6
  clear hW6
  have hHT : R = false := by rw [HR.out]; exact decide_eq_false (fun z => hq ((cok_3 hk).1 z).2.1)
  have HT := hid hHT
  clear hHT
  have HBE := hid HS6.out.be
  clear hk
  go_enter Tryz.func18, Tryz.ntmps18
  go_wp2_with (first
    | (refine wpList_load_mid rfl 41 (.tmp 1) rfl w.heap.size 0 rfl xc _ RG0 huc rfl (by rw [HLC.out]; exact info_cm) ?_
       simp only [pq4])
    | (refine wpList_store_asC rfl 41 (.tmp 3) (.tmp 5) rfl (w.heap.size + 1) 0 xc.toArray rfl rfl (by simpa [HLC.out] using TH1) (by simpa [HLC.out] using info_cm) HON.out W1 HW1.out ?_)
    | (refine wpList_store_i rfl 3 (.tmp 6) (.const (.int .i64 0)) rfl (w.heap.size + 1) 0 .i64 0 rfl rfl _ info_i C0.out F0.out W2 HW2.out ?_)
    | fail)
  refine (HAQ.out _).mono ?_
  rintro e wq ⟨rfl, rfl⟩
  go_wp2_with (first
    | (refine wpList_store_i rfl 3 (.tmp 45) (.const (.int .i64 0)) rfl (w.heap.size + 1) 30 .i64 0 rfl rfl _ info_i C30.out F30.out W3 HW3.out ?_)
    | (refine wpList_store_i rfl 3 (.tmp 46) (.const (.int .i64 0)) rfl (w.heap.size + 1) 31 .i64 0 rfl rfl _ info_i C31.out F31.out W4 HW4.out ?_)
    | (refine wpList_store_s rfl 39 (.tmp 91) (.const (.slice none 0 0)) rfl (w.heap.size + 1) 61 none 0 0 rfl rfl _ info_f C61.out F61.out W5 HW5.out ?_)
    | (refine wpList_store_i rfl 31 (.tmp 92) (.const (.int .u32 0)) rfl (w.heap.size + 1) 62 .u32 0 rfl rfl _ info_m C62.out F62.out W6 HW6.out ?_)
    | fail)
  go_ret
  exact ⟨by first | rfl | (rw [HT.out]; rfl), HBE.out⟩
theorem ccheck_3d (x : Cm) (w : World) (h : okCm w x) (hk : x.kd = 3) (hg : 0 ≤ x.dv) (hl : x.dv < 6) (hq : 1 ≤ x.rq ∧ x.rq ≤ 1099511627776) (hp : ¬ (lchk x.f = 0)) :
    Calls Tryz.prog 18 #[.agg (cmc x).toArray] w fun e w' => e = .returned (.bool (decide (cok x))) ∧ Below w.heap.size w w' := by
  have hue := Tryz.underlying38
  have hup := Tryz.underlying36
  have huc := Tryz.underlying41
  obtain ⟨hs1, hth⟩ := CkSt.new w x h.e8 h.p8
  have B0 := Blk.new w (cmc x) 41
  have RG0 := B0.range 0 (cmc x) (by rw [List.drop_zero, List.take_length])
  have honc := all_oneCell_toArray (cmc_one x)
  have HLC := hid (cmc_len h.e8 h.p8)
  have HPX := hid (cm_at h.e8 h.p8)
  obtain ⟨xc, hxc⟩ : ∃ c, c = cmc x := ⟨_, rfl⟩
  obtain ⟨W1, hW1⟩ : ∃ W1, W1 = ((w.alloc (.cells (cmc x).toArray 41)).alloc (.cells zA63 41)).setCells (w.heap.size + 1) 0 (cmc x) := ⟨_, rfl⟩
  rw [← hW1] at hs1
  rw [← hxc] at hW1 RG0 honc HLC hth ⊢
  have HS1 := hid hs1
  have HW1 := hid hW1
  have HON := hid honc
  have TH1 := hth
  obtain ⟨R, hR⟩ : ∃ R, R = decide (cok x) := ⟨_, rfl⟩
  rw [← hR]
  have HR := hid hR
  have e1 : (x.kd == 1) = false := by rw [hk]; rfl
  have e5 : (x.kd == 5) = false := by rw [hk]; rfl
  have e2 : (x.kd == 2) = false := by rw [hk]; rfl
  have e3 : (x.kd == 3) = true := by rw [hk]; rfl
  have e4 : (x.kd == 4) = false := by rw [hk]; rfl
  have ka_kd := HS1.out.a.cell HPX.out.1
  have kb_kd := HS1.out.b.cell (cm_at HS1.out.y1 HS1.out.y2).1
  have kf_kd := HS1.out.b.frozen 0
  clear hs1 hth hxc hW1 honc hR B0
  clear ka_kd kb_kd kf_kd
  have S2 := HS1.out.set 0 (.int .i64 0) (cm_sets HS1.out.y1 HS1.out.y2 0 0#32).1 HS1.out.y1 HS1.out.y2
  have S2 : CkSt w x _ (W1.setCell ⟨w.heap.size + 1, 0, none⟩ (.int .i64 0)) := S2
  obtain ⟨W2, hW2⟩ : ∃ W, W = W1.setCell ⟨w.heap.size + 1, 0, none⟩ (.int .i64 0) := ⟨_, rfl⟩
  rw [← hW2] at S2
  have C0 := hid (HS1.out.b.cell (cm_at HS1.out.y1 HS1.out.y2).1)
  have F0 := hid (HS1.out.b.frozen 0)
  have HW2 := hid hW2
  have S2 := hid S2
  clear hW2
  have S3 := S2.out.set 30 (.int .i64 0) (cm_sets S2.out.y1 S2.out.y2 0 0#32).2.1 S2.out.y1 S2.out.y2
  have S3 : CkSt w x _ (W2.setCell ⟨w.heap.size + 1, 30, none⟩ (.int .i64 0)) := S3
  obtain ⟨W3, hW3⟩ : ∃ W, W = W2.setCell ⟨w.heap.size + 1, 30, none⟩ (.int .i64 0) := ⟨_, rfl⟩
  rw [← hW3] at S3
  have C30 := hid (S2.out.b.cell (cm_at S2.out.y1 S2.out.y2).2.1)
  have F30 := hid (S2.out.b.frozen 30)
  have HW3 := hid hW3
  have S3 := hid S3
  clear hW3
  have HS4 := S3.out.set 31 (.int .i64 0) (cm_sets S3.out.y1 S3.out.y2 0 0#32).2.2.1 S3.out.y1 S3.out.y2
  have HS4 : CkSt w x (y4 x) (W3.setCell ⟨w.heap.size + 1, 31, none⟩ (.int .i64 0)) := HS4
  obtain ⟨W4, hW4⟩ : ∃ W, W = W3.setCell ⟨w.heap.size + 1, 31, none⟩ (.int .i64 0) := ⟨_, rfl⟩
  rw [← hW4] at HS4
  have C31 := hid (S3.out.b.cell (cm_at S3.out.y1 S3.out.y2).2.2.1)
  have F31 := hid (S3.out.b.frozen 31)
  have HW4 := hid hW4
  have HS4 := hid HS4
  clear hW4
  have ka_kd := S2.out.a.cell HPX.out.1
  have ka_30 := S2.out.a.cell HPX.out.2.1
  have ka_31 := S2.out.a.cell HPX.out.2.2.1
  have kd_kd := HS4.out.a.cell HPX.out.1
  have bg : decide (0 ≤ x.dv) = true := by simp [hg]
  have bl : decide (x.dv < 6) = true := by simp [hl]
  have HAQ : Hid (∀ wx : World, Calls Tryz.prog 43 #[.int .i64 x.rq] wx fun e w' => e = .returned (.bool true) ∧ wx = w') := Lib.hid (fun wx => by
    have h0 := cabove_any x.rq wx
    rwa [decide_eq_true hq] at h0)
  have ka_61 := HS4.out.a.cell HPX.out.2.2.2.2.2.2.1
  have HLK : Hid (∀ wx : World, Below w.heap.size w wx → Calls Tryz.prog 45 #[.slice x.A x.n x.c] wx fun e w' => e = .returned (.int .i64 (lchk x.f)) ∧ Below wx.heap.size wx w') := hid (fun wx hb => lcheck_any x.A x.n x.c x.f wx h.len ((h.see.below hb).more hb.size))
  obtain ⟨ip, hip⟩ : ∃ c, c = lchk x.f := ⟨_, rfl⟩
  rw [← hip] at HLK
  have HIP := hid hip
  clear hip
  have b0 : (ip == 0) = false := by rw [HIP.out]; simp [hp]
  go_enter Tryz.func18, Tryz.ntmps18
  go_wp2_with (first
    | (refine wpList_load_mid rfl 41 (.tmp 1) rfl w.heap.size 0 rfl xc _ RG0 huc rfl (by rw [HLC.out]; exact info_cm) ?_
       simp only [pq4])
    | (refine wpList_store_asC rfl 41 (.tmp 3) (.tmp 5) rfl (w.heap.size + 1) 0 xc.toArray rfl rfl (by simpa [HLC.out] using TH1) (by simpa [HLC.out] using info_cm) HON.out W1 HW1.out ?_)
    | (refine wpList_store_i rfl 3 (.tmp 6) (.const (.int .i64 0)) rfl (w.heap.size + 1) 0 .i64 0 rfl rfl _ info_i C0.out F0.out W2 HW2.out ?_)
    | fail)
  refine (HAQ.out _).mono ?_
  rintro e wq ⟨rfl, rfl⟩
  go_wp2_with (first
    | (refine wpList_store_i rfl 3 (.tmp 45) (.const (.int .i64 0)) rfl (w.heap.size + 1) 30 .i64 0 rfl rfl _ info_i C30.out F30.out W3 HW3.out ?_)
    | (refine wpList_store_i rfl 3 (.tmp 46) (.const (.int .i64 0)) rfl (w.heap.size + 1) 31 .i64 0 rfl rfl _ info_i C31.out F31.out W4 HW4.out ?_)
    | fail)
  refine (HLK.out _ HS4.out.be).mono ?_
  rintro e w5 ⟨rfl, hb5⟩
  have HS5 := hid (HS4.out.later hb5)
  have ka_62b := HS5.out.a.cell HPX.out.2.2.2.2.2.2.2
  clear kd_kd ka_kd ka_30 ka_31 hb5
  have S5 := HS5.out.set 61 (.slice none 0 0) (cm_sets HS5.out.y1 HS5.out.y2 0 0#32).2.2.2.2.2.2.1 HS5.out.y1 HS5.out.y2
  have S5 : CkSt w x _ (w5.setCell ⟨w.heap.size + 1, 61, none⟩ (.slice none 0 0)) := S5
  obtain ⟨W5, hW5⟩ : ∃ W, W = w5.setCell ⟨w.heap.size + 1, 61, none⟩ (.slice none 0 0) := ⟨_, rfl⟩
  rw [← hW5] at S5
  have C61 := hid (HS5.out.b.cell (cm_at HS5.out.y1 HS5.out.y2).2.2.2.2.2.2.1)
  have F61 := hid (HS5.out.b.frozen 61)
  have HW5 := hid hW5
  have S5 := hid S5
  clear hW5
  have HS6 := S5.out.set 62 (.int .u32 ((0#32 : BitVec 32).toNat : Int)) (cm_sets S5.out.y1 S5.out.y2 0 0#32).2.2.2.2.2.2.2 S5.out.y1 S5.out.y2
  have HS6 : CkSt w x (y3 x) (W5.setCell ⟨w.heap.size + 1, 62, none⟩ (.int .u32 0)) := HS6
  obtain ⟨W6, hW6⟩ : ∃ W, W = W5.setCell ⟨w.heap.size + 1, 62, none⟩ (.int .u32 0) := ⟨_, rfl⟩
  rw [← hW6] at HS6
  have C62 := hid (S5.out.b.cell (cm_at S5.out.y1 S5.out.y2).2.2.2.2.2.2.2)
  have F62 := hid (S5.out.b.frozen 62)
  have HW6 := hid hW6
  have HS6 := hid HS6
  clear hW6
  have hHT : R = false := by rw [HR.out]; exact decide_eq_false (fun z => hp ((cok_3 hk).1 z).2.2.1)
  have HT := hid hHT
  clear hHT
  have HBE := hid HS6.out.be
  clear hk
  go_wp2_with (first
    | (refine wpList_store_s rfl 39 (.tmp 91) (.const (.slice none 0 0)) rfl (w.heap.size + 1) 61 none 0 0 rfl rfl _ info_f C61.out F61.out W5 HW5.out ?_)
    | (refine wpList_store_i rfl 31 (.tmp 92) (.const (.int .u32 0)) rfl (w.heap.size + 1) 62 .u32 0 rfl rfl _ info_m C62.out F62.out W6 HW6.out ?_)
    | fail)
  go_ret
  exact ⟨by first | rfl | (rw [HT.out]; rfl), HBE.out⟩
theorem ccheck_3e (x : Cm) (w : World) (h : okCm w x) (hk : x.kd = 3) (hg : 0 ≤ x.dv) (hl : x.dv < 6) (hq : 1 ≤ x.rq ∧ x.rq ≤ 1099511627776) (hp : lchk x.f = 0) (hm : ¬ (x.ms.toNat ≤ 511)) :
    Calls Tryz.prog 18 #[.agg (cmc x).toArray] w fun e w' => e = .returned (.bool (decide (cok x))) ∧ Below w.heap.size w w' := by
  have hue := Tryz.underlying38
  have hup := Tryz.underlying36
  have huc := Tryz.underlying41
  obtain ⟨hs1, hth⟩ := CkSt.new w x h.e8 h.p8
  have B0 := Blk.new w (cmc x) 41
  have RG0 := B0.range 0 (cmc x) (by rw [List.drop_zero, List.take_length])
  have honc := all_oneCell_toArray (cmc_one x)
  have HLC := hid (cmc_len h.e8 h.p8)
  have HPX := hid (cm_at h.e8 h.p8)
  obtain ⟨xc, hxc⟩ : ∃ c, c = cmc x := ⟨_, rfl⟩
  obtain ⟨W1, hW1⟩ : ∃ W1, W1 = ((w.alloc (.cells (cmc x).toArray 41)).alloc (.cells zA63 41)).setCells (w.heap.size + 1) 0 (cmc x) := ⟨_, rfl⟩
  rw [← hW1] at hs1
  rw [← hxc] at hW1 RG0 honc HLC hth ⊢
  have HS1 := hid hs1
  have HW1 := hid hW1
  have HON := hid honc
  have TH1 := hth
  obtain ⟨R, hR⟩ : ∃ R, R = decide (cok x) := ⟨_, rfl⟩
  rw [← hR]
  have HR := hid hR
  have e1 : (x.kd == 1) = false := by rw [hk]; rfl
  have e5 : (x.kd == 5) = false := by rw [hk]; rfl
  have e2 : (x.kd == 2) = false := by rw [hk]; rfl
  have e3 : (x.kd == 3) = true := by rw [hk]; rfl
  have e4 : (x.kd == 4) = false := by rw [hk]; rfl
  have ka_kd := HS1.out.a.cell HPX.out.1
  have kb_kd := HS1.out.b.cell (cm_at HS1.out.y1 HS1.out.y2).1
  have kf_kd := HS1.out.b.frozen 0
  clear hs1 hth hxc hW1 honc hR B0
  clear ka_kd kb_kd kf_kd
  have S2 := HS1.out.set 0 (.int .i64 0) (cm_sets HS1.out.y1 HS1.out.y2 0 0#32).1 HS1.out.y1 HS1.out.y2
  have S2 : CkSt w x _ (W1.setCell ⟨w.heap.size + 1, 0, none⟩ (.int .i64 0)) := S2
  obtain ⟨W2, hW2⟩ : ∃ W, W = W1.setCell ⟨w.heap.size + 1, 0, none⟩ (.int .i64 0) := ⟨_, rfl⟩
  rw [← hW2] at S2
  have C0 := hid (HS1.out.b.cell (cm_at HS1.out.y1 HS1.out.y2).1)
  have F0 := hid (HS1.out.b.frozen 0)
  have HW2 := hid hW2
  have S2 := hid S2
  clear hW2
  have S3 := S2.out.set 30 (.int .i64 0) (cm_sets S2.out.y1 S2.out.y2 0 0#32).2.1 S2.out.y1 S2.out.y2
  have S3 : CkSt w x _ (W2.setCell ⟨w.heap.size + 1, 30, none⟩ (.int .i64 0)) := S3
  obtain ⟨W3, hW3⟩ : ∃ W, W = W2.setCell ⟨w.heap.size + 1, 30, none⟩ (.int .i64 0) := ⟨_, rfl⟩
  rw [← hW3] at S3
  have C30 := hid (S2.out.b.cell (cm_at S2.out.y1 S2.out.y2).2.1)
  have F30 := hid (S2.out.b.frozen 30)
  have HW3 := hid hW3
  have S3 := hid S3
  clear hW3
  have HS4 := S3.out.set 31 (.int .i64 0) (cm_sets S3.out.y1 S3.out.y2 0 0#32).2.2.1 S3.out.y1 S3.out.y2
  have HS4 : CkSt w x (y4 x) (W3.setCell ⟨w.heap.size + 1, 31, none⟩ (.int .i64 0)) := HS4
  obtain ⟨W4, hW4⟩ : ∃ W, W = W3.setCell ⟨w.heap.size + 1, 31, none⟩ (.int .i64 0) := ⟨_, rfl⟩
  rw [← hW4] at HS4
  have C31 := hid (S3.out.b.cell (cm_at S3.out.y1 S3.out.y2).2.2.1)
  have F31 := hid (S3.out.b.frozen 31)
  have HW4 := hid hW4
  have HS4 := hid HS4
  clear hW4
  have ka_kd := S2.out.a.cell HPX.out.1
  have ka_30 := S2.out.a.cell HPX.out.2.1
  have ka_31 := S2.out.a.cell HPX.out.2.2.1
  have kd_kd := HS4.out.a.cell HPX.out.1
  have bg : decide (0 ≤ x.dv) = true := by simp [hg]
  have bl : decide (x.dv < 6) = true := by simp [hl]
  have HAQ : Hid (∀ wx : World, Calls Tryz.prog 43 #[.int .i64 x.rq] wx fun e w' => e = .returned (.bool true) ∧ wx = w') := Lib.hid (fun wx => by
    have h0 := cabove_any x.rq wx
    rwa [decide_eq_true hq] at h0)
  have ka_61 := HS4.out.a.cell HPX.out.2.2.2.2.2.2.1
  have HLK : Hid (∀ wx : World, Below w.heap.size w wx → Calls Tryz.prog 45 #[.slice x.A x.n x.c] wx fun e w' => e = .returned (.int .i64 (lchk x.f)) ∧ Below wx.heap.size wx w') := hid (fun wx hb => lcheck_any x.A x.n x.c x.f wx h.len ((h.see.below hb).more hb.size))
  obtain ⟨ip, hip⟩ : ∃ c, c = lchk x.f := ⟨_, rfl⟩
  rw [← hip] at HLK
  have HIP := hid hip
  clear hip
  have b0 : (ip == 0) = true := by rw [HIP.out]; simp [hp]
  have HMK : Hid (∀ wx : World, Calls Tryz.prog 46 #[.int .u32 (x.ms.toNat : Int)] wx fun e w' => e = .returned (.bool false) ∧ wx = w') := Lib.hid (fun wx => by
    have h0 := mcheck_any x.ms wx
    rwa [decide_eq_false hm] at h0)
  go_enter Tryz.func18, Tryz.ntmps18
  go_wp2_with (first
    | (refine wpList_load_mid rfl 41 (.tmp 1) rfl w.heap.size 0 rfl xc _ RG0 huc rfl (by rw [HLC.out]; exact info_cm) ?_
       simp only [pq4])
    | (refine wpList_store_asC rfl 41 (.tmp 3) (.tmp 5) rfl (w.heap.size + 1) 0 xc.toArray rfl rfl (by simpa [HLC.out] using TH1) (by simpa [HLC.out] using info_cm) HON.out W1 HW1.out ?_)
    | (refine wpList_store_i rfl 3 (.tmp 6) (.const (.int .i64 0)) rfl (w.heap.size + 1) 0 .i64 0 rfl rfl _ info_i C0.out F0.out W2 HW2.out ?_)
    | fail)
  refine (HAQ.out _).mono ?_
  rintro e wq ⟨rfl, rfl⟩
  go_wp2_with (first
    | (refine wpList_store_i rfl 3 (.tmp 45) (.const (.int .i64 0)) rfl (w.heap.size + 1) 30 .i64 0 rfl rfl _ info_i C30.out F30.out W3 HW3.out ?_)
    | (refine wpList_store_i rfl 3 (.tmp 46) (.const (.int .i64 0)) rfl (w.heap.size + 1) 31 .i64 0 rfl rfl _ info_i C31.out F31.out W4 HW4.out ?_)
    | fail)
  refine (HLK.out _ HS4.out.be).mono ?_
  rintro e w5 ⟨rfl, hb5⟩
  have HS5 := hid (HS4.out.later hb5)
  have ka_62b := HS5.out.a.cell HPX.out.2.2.2.2.2.2.2
  clear kd_kd ka_kd ka_30 ka_31 hb5
  have S5 := HS5.out.set 61 (.slice none 0 0) (cm_sets HS5.out.y1 HS5.out.y2 0 0#32).2.2.2.2.2.2.1 HS5.out.y1 HS5.out.y2
  have S5 : CkSt w x _ (w5.setCell ⟨w.heap.size + 1, 61, none⟩ (.slice none 0 0)) := S5
  obtain ⟨W5, hW5⟩ : ∃ W, W = w5.setCell ⟨w.heap.size + 1, 61, none⟩ (.slice none 0 0) := ⟨_, rfl⟩
  rw [← hW5] at S5
  have C61 := hid (HS5.out.b.cell (cm_at HS5.out.y1 HS5.out.y2).2.2.2.2.2.2.1)
  have F61 := hid (HS5.out.b.frozen 61)
  have HW5 := hid hW5
  have S5 := hid S5
  clear hW5
  have HS6 := S5.out.set 62 (.int .u32 ((0#32 : BitVec 32).toNat : Int)) (cm_sets S5.out.y1 S5.out.y2 0 0#32).2.2.2.2.2.2.2 S5.out.y1 S5.out.y2
  have HS6 : CkSt w x (y3 x) (W5.setCell ⟨w.heap.size + 1, 62, none⟩ (.int .u32 0)) := HS6
  obtain ⟨W6, hW6⟩ : ∃ W, W = W5.setCell ⟨w.heap.size + 1, 62, none⟩ (.int .u32 0) := ⟨_, rfl⟩
  rw [← hW6] at HS6
  have C62 := hid (S5.out.b.cell (cm_at S5.out.y1 S5.out.y2).2.2.2.2.2.2.2)
  have F62 := hid (S5.out.b.frozen 62)
  have HW6 := hid hW6
  have HS6 := hid HS6
  clear hW6
  have hHT : R = false := by rw [HR.out]; exact decide_eq_false (fun z => hm ((cok_3 hk).1 z).2.2.2.1)
  have HT := hid hHT
  clear hHT
  have HBE := hid HS6.out.be
  clear hk
  go_wp2_with fail
  refine (HMK.out _).mono ?_
  rintro e wq ⟨rfl, rfl⟩
  go_wp2_with (first
    | (refine wpList_store_s rfl 39 (.tmp 91) (.const (.slice none 0 0)) rfl (w.heap.size + 1) 61 none 0 0 rfl rfl _ info_f C61.out F61.out W5 HW5.out ?_)
    | (refine wpList_store_i rfl 31 (.tmp 92) (.const (.int .u32 0)) rfl (w.heap.size + 1) 62 .u32 0 rfl rfl _ info_m C62.out F62.out W6 HW6.out ?_)
    | fail)
  go_ret
  exact ⟨by first | rfl | (rw [HT.out]; rfl), HBE.out⟩
end Go.Proofs.YtnhcjadkbogioaaGreat
