/- Commands: CmdwireBack's walk. -/
import Derived.Test.YtnhcjadkbogioaaJ28
import Derived.Test.YtnhcjadkbogioaaJ22
import Derived.Test.YtnhcjadkbogioaaJ29
import Derived.Test.YtnhcjadkbogioaaJ25
namespace Go.Proofs.Ytnhcjadkbogioaa
set_option linter.unusedVariables false
set_option linter.unusedSimpArgs false
open Go Go.RowKit OctM BitM
theorem small_nB {w : World} {x : Cm} (h : okCm w x) (hb : cbig x = false) : x.n ≤ 65536 := by
  unfold cbig at hb
  rw [Bool.or_eq_false_iff] at hb
  have hb := hb.2
  unfold lbig at hb
  rw [Bool.or_eq_false_iff] at hb
  have h1 := of_decide_eq_false hb.1
  rw [← h.len]
  omega
theorem cm_twice (x : Cm) (l : List UInt8) (h : cok x) (h8 : x.ef.length = 8) (h8' : x.pf.length = 8) : cmOut (putC x ++ l) 0 0 = (cab x, (putC x).length, 0) ∧ decOut (putC x) = (cab x, 0) := by
  have h1 := cm_put [] l x h h8 h8'
  have h2 := cm_put [] [] x h h8 h8'
  simp only [List.nil_append, List.append_nil, List.length_nil, Nat.zero_add] at h1 h2
  refine ⟨h1, ?_⟩
  have he : endOut (putC x).length (putC x).length 0 = 0 := by simp [endOut]
  unfold decOut
  rw [h2]
  simp only
  rw [he, if_pos rfl]
theorem cm_said (l : List UInt8) (X : Cm) (hc : cab X = (cmOut l 0 0).1) (h0 : (cmOut l 0 0).2.2 = 0) : cok X ∧ (putC X).length = (cmOut l 0 0).2.1 ∧ l.take (cmOut l 0 0).2.1 = putC X := by
  obtain ⟨_, g2, g3, g4⟩ := cm_only h0
  rw [← hc, cab_bytes] at g3 g4
  rw [← hc] at g2
  rw [List.drop_zero] at g3
  rw [Nat.zero_add] at g4
  refine ⟨(cab_cok (show cab X = cab (cab X) from rfl)).2 g2, g4.symm, ?_⟩
  rw [g4, g3, List.take_left]
set_option maxRecDepth 100000 in
set_option maxHeartbeats 12800000 in
theorem walk_cback (c0 : Cm) (A : Option Addr) (n c : Nat) (l : List UInt8) (w : World) (hr0 : okCm w c0) (hn : l.length = n) (hnc : n ≤ c) (hs : Sees w w.heap.size A (bvs l)) :
    Calls Try.prog 4 #[.agg (cmc c0).toArray, .slice A n c] w fun e w' => e = .returned (.bool true) ∧ Below w.heap.size w w' := by
  have hu := Try.underlying32
  have HLA := hid (cmc_len hr0.e8 hr0.p8)
  obtain ⟨W0, hW0⟩ : ∃ W0, W0 = w.alloc (.cells (cmc c0).toArray 32) := ⟨_, rfl⟩
  have HB0 : Hid (Below w.heap.size w W0) := hid (by rw [hW0]; exact below_a1C _ _)
  have HKA : Hid (Blk W0 w.heap.size (cmc c0)) := hid (by rw [hW0]; exact Blk.new _ _ _)
  have HW0 := hid hW0
  have HBA := hid (fun W (hW : Below w.heap.size w W) => clarge_any c0 W (hr0.later hW))
  have HOK := hid (fun W (hW : Below w.heap.size w W) => hr0.later hW)
  have HKE := hid (fun W (hW : Below w.heap.size w W) => rccheck_any c0 W (hr0.later hW))
  have HPE := hid (fun W (hW : Below w.heap.size w W) => cput_any none 0 0 [] c0 W rfl Sees.nil_ (by omega) (hr0.later hW))
  have HSN := hid (fun (h : cbig c0 = false) => small_nB hr0 h)
  simp only [List.nil_append] at HPE
  have HRD : Hid (decide (cok c0) = true → cmOut (putC c0 ++ l) 0 0 = (cab c0, (putC c0).length, 0) ∧ (∀ (A' : Option Addr) (c' : Nat) (wx : World), Sees wx wx.heap.size A' (bvs (putC c0)) → Calls Try.prog 16 #[.slice A' (putC c0).length c'] wx (CmDec wx (cab c0, 0)))) := hid (fun h => by
    have h2 := cm_twice c0 l (of_decide_eq_true h) hr0.e8 hr0.p8
    refine ⟨h2.1, fun A' c' wx hsx => ?_⟩
    rw [← h2.2]
    exact cdec_any A' (putC c0).length c' (putC c0) wx rfl hsx (by have := putC_len c0; omega))
  obtain ⟨pz, hpz⟩ : ∃ b, b = decide (cok c0) := ⟨_, rfl⟩
  obtain ⟨lp, hlp⟩ : ∃ z, z = putC c0 := ⟨_, rfl⟩
  obtain ⟨kp, hkp⟩ : ∃ z, z = lp.length := ⟨_, rfl⟩
  have HKP : Hid (kp ≤ 2000) := hid (by rw [hkp, hlp]; exact putC_len c0)
  obtain ⟨ba, hba⟩ : ∃ b, b = cbig c0 := ⟨_, rfl⟩
  rw [← hpz] at HKE HRD
  rw [← hlp] at HPE HRD
  rw [← hkp] at HRD
  rw [← hba] at HBA HSN
  have MK : Hid (lp.length = kp) := hid hkp.symm
  have HNL := hid hn
  have HNC := hid hnc
  have HS := hid hs
  have AO := cmOut_at (l := l) (a := 0) (e := 0) (Nat.zero_le _)
  have HRE := hid (fun (h5 : n ≤ 1500) (base g : Nat) (wx : World) (hx : Rd wx base g l 0 0) => cread_any base g l 0 0 wx hx (Nat.zero_le _) (by omega))
  have HSD := hid (fun (X : Cm) => cm_said l X)
  obtain ⟨q, hq⟩ : ∃ q, q = cmOut l 0 0 := ⟨_, rfl⟩
  rw [← hq] at HRE HSD AO
  obtain ⟨qx, ac, eC⟩ := q
  simp only at HRE HSD AO
  rw [hn] at AO
  obtain ⟨qc, hqc⟩ : ∃ q, q = n - ac := ⟨_, rfl⟩
  have HNQ := hid (show (n : Int) - (qc : Int) = (ac : Int) by omega)
  have HQC := hid (show ((l.length : Nat) : Int) - (ac : Int) = (qc : Int) by rw [hn]; omega)
  have bq : qc ≤ n := by omega
  obtain ⟨ca, hca⟩ : ∃ ca, ca = cmc c0 := ⟨_, rfl⟩
  rw [← hca] at HLA HKA HW0 HBA HKE HPE ⊢
  have HCA := hid hca
  obtain ⟨i0, hi, hz0, hz1, hz2⟩ := oct_parts
  have HI := hid (And.intro hi (And.intro hz0 (And.intro hz1 hz2)))
  clear hi hz0 hz1 hz2 hpz hlp hkp hba hn hnc hs hq hqc hca hW0 hr0
  have RGA := HKA.out.range 0 ca (by rw [List.drop_zero, List.take_length])
  rw [HW0.out] at RGA
  by_cases h5 : n ≤ 1500
  case neg =>
    have d5 : decide ((1500 : Int) < (n : Int)) = true := by simp; omega
    cases ba
    all_goals
      go_enter Try.func4, Try.ntmps4
      go_wp2_with (first
        | (refine wpList_load_mid rfl 32 (.tmp 2) rfl w.heap.size 0 rfl ca _ RGA hu rfl (by rw [HLA.out]; exact info_cm) ?_; simp only [pq4])
        | fail)
      rw [← HW0.out]
      refine (HBA.out _ HB0.out).mono ?_
      rintro e w1 ⟨rfl, hba⟩
      clear RGA
      have HB1 := hid (HB0.out.trans (hba.mono HB0.out.size))
      have HK1 := hid (HKA.out.later hba)
      clear hba HBA HB0 HKA HW0
      go_wp2_with fail
      refine (cm_awake _).mono ?_
      rintro e wz ⟨rfl, bz⟩
      go_wp2_with fail
      go_ret
      exact ⟨rfl, HB1.out.trans (bz.mono HB1.out.size)⟩
  have d5 : decide ((1500 : Int) < (n : Int)) = false := by simp; omega
  cases ba
  case true =>
    go_enter Try.func4, Try.ntmps4
    go_wp2_with (first
      | (refine wpList_load_mid rfl 32 (.tmp 2) rfl w.heap.size 0 rfl ca _ RGA hu rfl (by rw [HLA.out]; exact info_cm) ?_; simp only [pq4])
      | fail)
    rw [← HW0.out]
    refine (HBA.out _ HB0.out).mono ?_
    rintro e w1 ⟨rfl, hba⟩
    clear RGA
    have HB1 := hid (HB0.out.trans (hba.mono HB0.out.size))
    have HK1 := hid (HKA.out.later hba)
    clear hba HBA HB0 HKA HW0
    go_wp2_with fail
    refine (cm_awake _).mono ?_
    rintro e wz ⟨rfl, bz⟩
    go_wp2_with fail
    go_ret
    exact ⟨rfl, HB1.out.trans (bz.mono HB1.out.size)⟩
  have HRE := hid (HRE.out h5)
  go_enter Try.func4, Try.ntmps4
  go_wp2_with (first
    | (refine wpList_load_mid rfl 32 (.tmp 2) rfl w.heap.size 0 rfl ca _ RGA hu rfl (by rw [HLA.out]; exact info_cm) ?_; simp only [pq4])
    | fail)
  rw [← HW0.out]
  refine (HBA.out _ HB0.out).mono ?_
  rintro e w1 ⟨rfl, hba⟩
  clear RGA
  have HB1 := hid (HB0.out.trans (hba.mono HB0.out.size))
  have HK1 := hid (HKA.out.later hba)
  clear hba HBA HB0 HKA HW0
  go_wp2_with fail
  refine (rd_new A n c l w1 HNL.out ((HS.out.below HB1.out).more HB1.out.size) (by omega)).mono ?_
  rintro e w2 ⟨gr, rfl, r2, b2⟩
  have HGR : Hid (w.heap.size < gr) := hid (by have := HK1.out.lt; have := r2.block.1; omega)
  have HB2 := hid (HB1.out.trans (b2.mono HB1.out.size))
  have HK2 := hid (HK1.out.later b2)
  have HR2 := hid r2
  clear b2 r2
  go_wp2_with fail
  refine (HRE.out _ gr w2 HR2.out).mono ?_
  rintro e w3 ⟨⟨X, rfl, okX, cabX, nX, lowX⟩, hr3, hg3⟩
  have HB3 := hid (HB2.out.trans (below_rowI hg3 (by have := HGR.out; omega) HB2.out.size))
  have HK3 := hid (HK2.out.kept hg3 (by have := HGR.out; intro e; injection e with e; omega))
  have HR3 := hid hr3
  clear hr3 hg3 HR2 HB2 HK2 HRE lowX
  obtain ⟨rc, hrc⟩ : ∃ c, c = cmc X := ⟨_, rfl⟩
  have HRL : Hid (rc.length = 63) := hid (by rw [hrc]; exact cmc_len okX.e8 okX.p8)
  have HRO : Hid (rc.toArray.all (·.oneCell') = true) := hid (by rw [hrc]; exact all_oneCell_toArray (cmc_one X))
  have HRCX := hid hrc
  rw [← hrc]
  clear hrc
  have TH : (w3.alloc (.cells zA63 32)).there w3.heap.size 0 63 := (Blk.new w3 (cmc zcm) 32).there 0 63 (by decide)
  obtain ⟨WA, hWA⟩ : ∃ W, W = (w3.alloc (.cells zA63 32)).setCells w3.heap.size 0 rc := ⟨_, rfl⟩
  have HWA := hid hWA
  have hbA := below_a1C w3 (.cells zA63 32)
  have hnb : Blk WA w3.heap.size rc := by rw [hWA]; exact (Blk.new w3 (cmc zcm) 32).wholeT (by rw [HRL.out]; rfl)
  have hlb : Le w3 WA := by rw [hWA]; exact below_sets (Nat.le_refl _) rc 0 (below_a1C w3 _)
  clear hWA hbA
  have HRW : Hid (Rd WA _ gr l ac eC) := hid (HR3.out.later hlb)
  have HBW := hid (HB3.out.trans (hlb.mono HB3.out.size))
  have HKW := hid (HK3.out.later hlb)
  have HXW := hid (okX.later hlb)
  have HNW := hid hnb
  have HSX := hid (HSD.out X cabX)
  clear hnb hlb okX cabX nX HB3 HK3 HR3 HSD
  go_wp2_with (first
    | (refine wpList_store_asC rfl 32 (.tmp 6) (.tmp 24) rfl w3.heap.size 0 rc.toArray rfl rfl (by simpa [HRL.out] using TH) (by simpa [HRL.out] using info_cm) HRO.out WA HWA.out ?_)
    | fail)
  clear TH HWA
  generalize w3.heap.size = H at *
  refine (rd_left _ gr l ac eC WA HRW.out (by rw [HNL.out]; exact AO) (by rw [HNL.out]; omega)).mono ?_
  rintro e w7 ⟨rfl, k6, hw7⟩
  rw [HQC.out]
  have hbd : Below WA.heap.size WA w7 := by rw [hw7]; exact below_drewN (Below.refl _ _) k6
  have HB7 := hid (HBW.out.trans (hbd.mono HBW.out.size))
  have c1 : decide ((n : Int) < (ac : Int)) = false := by simp; omega
  have c0' : decide ((ac : Int) < 0) = false := by simp
  have c1n : decide (n < ac) = false := decide_eq_false (by omega)
  have hnq := HNQ.out
  have HR7 := hid (HRW.out.later hbd)
  have HC7 := hid (HNW.out.later hbd)
  have HA7 := hid (HKW.out.later hbd)
  have HX7 := hid (HXW.out.later hbd)
  clear hbd hw7 HRW HBW HKW HXW HNW
  have HEC := hid (fun wx (hl : Le w7 wx) => (rd_err _ gr l ac eC wx (HR7.out.later hl)).mono fun e w' h => (show e = .returned (.int .i64 eC) ∧ Below wx.heap.size wx w' from ⟨h.1, h.2 ▸ Below.refl _ _⟩))
  have HRC : Hid (∀ wx, Le w7 wx → wx.rangeAt H 0 rc) := hid (fun wx hl => (HC7.out.later hl).range 0 rc (by rw [List.drop_zero, List.take_length]))
  have HBE : Hid (∀ wx, Le w7 wx → Blk wx w.heap.size ca) := hid (fun wx hl => HA7.out.later hl)
  have hs7 : Sees w7 w7.heap.size A (bvs l) := (HS.out.below HB7.out).more HB7.out.size
  have HS7 : Hid (∀ wx, Le w7 wx → Sees wx wx.heap.size A (bvs l)) := hid (fun wx hl => (hs7.below hl).more hl.size)
  have L77 := Le.refl w7
  by_cases ec0 : eC = 0
  · have tc : (eC == 0) = true := by simpa using ec0
    obtain ⟨bc, hbc⟩ : ∃ b, b = putC X := ⟨_, rfl⟩
    obtain ⟨hcx, hlx, hbt⟩ := HSX.out ec0
    have HKC := hid (fun wx (hl : Le w7 wx) => rccheck_any X wx (HX7.out.later hl))
    have HPC := hid (fun wx (hl : Le w7 wx) => cput_any none 0 0 [] X wx rfl Sees.nil_ (by omega) (HX7.out.later hl))
    rw [decide_eq_true hcx, ← HRCX.out] at HKC
    rw [List.nil_append, ← hbc, ← HRCX.out] at HPC
    rw [← hbc] at hlx hbt
    have MC := hid hlx
    obtain ⟨hi, hz0, hz1, hz2⟩ := HI.out
    obtain ⟨SC, hSC⟩ : ∃ z, z = str bc := ⟨_, rfl⟩
    have HVC : Hid (∀ (wx : World) (A' : Option Addr) (c' : Nat) (h : Sees wx wx.heap.size A' (bvs bc)), (convert 33 9 (.slice A' ac c')).run Try.prog wx = .ok (.string SC) wx) := hid (fun wx A' c' h => str_conv wx wx.heap.size A' ac c' bc SC MC.out h hSC)
    obtain ⟨A2c, hslSC, hssSC⟩ := cutto_fact 33 5 i0 Try.underlying33 hi hz1 hs7 n ac c (ac : Int) .i64 (by rw [bvs_length, HNL.out]) (by omega) rfl HNC.out
    have HUC : Hid (∀ wx : World, Le w7 wx → (convert 33 9 (.slice A2c ac c)).run Try.prog wx = .ok (.string SC) wx) := hid (fun wx hl => str_conv wx w7.heap.size A2c ac c bc SC MC.out ((sees_take hssSC hbt).below hl) hSC)
    clear hSC hssSC
    clear hlx hbc hcx hbt ec0 hi hz0 hz1 hz2 HSX
    go_wp2_with fail
    refine wp_region_steady [(48, relSee ac bc)] 104 (by kernel_rfl) (by kernel_rfl) (by kernel_rfl) (by rfl) ?_
    iterate 8 (refine wpG_quiet (by rfl) (by rfl) (by rfl) (fun K hK => ?_); go_big_quiet_op; refine hK _ ?_; clear hK K)
    try simp only [c1n]
    iterate 2 (refine wpG_quiet (by rfl) (by rfl) (by rfl) (fun K hK => ?_); go_big_quiet_op; refine hK _ ?_; clear hK K)
    refine wpG_call (by rfl) (by rfl) 14 #[.pointer (some ⟨gr, 0, none⟩)] (.int .i64 eC) (by intro _; simp [go_sem]) (by kernel_rfl) (fun w1 hl => HEC.out w1 (L77.trans hl.1)) ?_
    simp only [pq4]
    iterate 2 (refine wpG_quiet (by rfl) (by rfl) (by rfl) (fun K hK => ?_); go_big_quiet_op; refine hK _ ?_; clear hK K)
    refine wpG_run (by rfl) (by rfl) (.agg rc.toArray) (fun w1 hl => exec_load 32 (.tmp 6) rfl H 0 rfl rc _ (HRC.out w1 (L77.trans hl.1)) hu rfl (by rw [HRL.out]; exact info_cm)) ?_
    simp only [pq4]
    refine wpG_call (by rfl) (by rfl) 15 #[.agg rc.toArray] (.bool true) (by intro _; simp [go_sem]) (by kernel_rfl) (fun w1 hl => HKC.out w1 (L77.trans hl.1)) ?_
    simp only [pq4]
    iterate 2 (refine wpG_quiet (by rfl) (by rfl) (by rfl) (fun K hK => ?_); go_big_quiet_op; refine hK _ ?_; clear hK K)
    refine wpG_run (by rfl) (by rfl) (.agg rc.toArray) (fun w1 hl => exec_load 32 (.tmp 6) rfl H 0 rfl rc _ (HRC.out w1 (L77.trans hl.1)) hu rfl (by rw [HRL.out]; exact info_cm)) ?_
    simp only [pq4]
    refine wpG_calls (relSee ac bc) (by rfl) (by rfl) 7 #[.slice none 0 0, .agg rc.toArray] (by intro _; simp [go_sem]) (fun w1 hl => (HPC.out w1 (L77.trans hl.1)).mono fun e w' h => gives_see MC.out h) ?_
    rintro _ ⟨_, _, _, ⟨A7, c7, rfl, _⟩⟩
    simp only [pq4]
    refine wpG_run (by rfl) (by rfl) (.string SC) (fun w1 hl => ?_) ?_
    · obtain ⟨A8, c8, h8, s8⟩ := hl.2 48 _ (by simp [Op.operands]) rfl (by intro h; cases h)
      cases h8
      exact exec_conv (.tmp 48) 33 9 rfl _ rfl _ (HVC.out w1 A7 c7 s8)
    simp only [pq4]
    iterate 3 (refine wpG_quiet (by rfl) (by rfl) (by rfl) (fun K hK => ?_); go_big_quiet_op; refine hK _ ?_; clear hK K)
    refine wpG_run (by rfl) (by rfl) (.string SC) (fun w1 hl => exec_conv (.tmp 52) 33 9 rfl _ rfl _ (HUC.out w1 (L77.trans hl.1))) ?_
    simp only [pq4]
    iterate 4 (refine wpG_quiet (by rfl) (by rfl) (by rfl) (fun K hK => ?_); go_big_quiet_op; refine hK _ ?_; clear hK K)
    refine wpG_nil (fun w8 l8 _ => ?_)
    clear hslSC
    have RG := (HBE.out _ l8).range 0 ca (by rw [List.drop_zero, List.take_length])
    clear hs7
    go_wp2_with (first
      | (refine wpList_load_mid rfl 32 (.tmp 2) rfl w.heap.size 0 rfl ca _ RG hu rfl (by rw [HLA.out]; exact info_cm) ?_)
      | fail)
    refine (HKE.out _ (HB7.out.trans (l8.mono HB7.out.size))).mono ?_
    rintro e w9 ⟨rfl, b9⟩
    have l9 := l8.trans b9
    clear RG b9 l8
    cases pz
    · go_wp2_with fail
      refine (cm_awake _).mono ?_
      rintro e wz ⟨rfl, bz⟩
      go_wp2_with fail
      go_ret
      exact ⟨rfl, (HB7.out.trans (l9.mono HB7.out.size)).trans (bz.mono (HB7.out.trans (l9.mono HB7.out.size)).size)⟩
    · have RG := (HBE.out _ l9).range 0 ca (by rw [List.drop_zero, List.take_length])
      go_wp2_with (first
        | (refine wpList_load_mid rfl 32 (.tmp 2) rfl w.heap.size 0 rfl ca _ RG hu rfl (by rw [HLA.out]; exact info_cm) ?_)
        | fail)
      refine (HPE.out _ (HB7.out.trans (l9.mono HB7.out.size))).mono ?_
      rintro e w3 ⟨A3, c3, rfl, o3, b3⟩
      rw [MK.out] at o3 ⊢
      have l10 := l9.trans b3
      have s3 := (o3.sees).more (Nat.le_refl _)
      have hs3 := HS7.out _ l10
      have HS3 := hid s3
      have HBC := hid (HBE.out _ l10)
      have HB3 := hid (HB7.out.trans (l10.mono HB7.out.size))
      have hkp := HKP.out
      clear RG o3 b3 l9 l10
      obtain ⟨hi, hz0, hz1, hz2⟩ := HI.out
      go_wp2_with (first
        | (at_builtin
           refine wpList_app _ rfl (.tmp 64) (.tmp 65) _ rfl w3.heap.size 5 i0 _ 1 Try.underlying33 hi hz0 hz1 hz2 rfl (.slice (some ⟨w3.heap.size, 0, none⟩) 0 0) [] 0 rfl rfl (own_lit w3 w3.heap.size 5 #[] (Nat.le_refl _) (by simp [maxLen])) w3.heap.size A3 c3 (bvs lp) kp rfl (by rw [bvs_length, MK.out]) (s3.alloc (Nat.le_refl _) _) (bvs_one _) (by simp [maxLen]; omega) (by omega) (by simp) ?_
           intro A4 c4 w4 o4 b4' hg4 hat4; simp only [Nat.zero_add, List.nil_append] at o4 hat4
           have b4 : Below w3.heap.size w3 w4 := ((Below.refl _ _).alloc (Nat.le_refl _) _).trans b4'
           have hz4 := b4'.size
           simp only [World.alloc] at hz4)
        | (at_builtin
           refine wpList_app _ rfl (.tmp 66) (.tmp 67) _ rfl w3.heap.size 5 i0 _ 1 Try.underlying33 hi hz0 hz1 hz2 rfl (.slice A4 kp c4) (bvs lp) kp rfl (by rw [bvs_length, MK.out]) o4 w3.heap.size A c (bvs l) n rfl (by rw [bvs_length, HNL.out]) ((hs3.alloc (Nat.le_refl _) _).below b4') (bvs_one _) (by simp [maxLen]; omega) (by omega) (((Below.refl _ _).alloc (Nat.le_refl _) _).trans b4').size ?_
           intro A5 c5 w5 o5 b5' hg5 hat5
           have b5 : Below w3.heap.size w3 w5 := b4.trans b5')
        | fail)
      rw [← bvs_append] at o5
      have HLL : Hid ((lp ++ l).length = kp + n) := hid (by rw [List.length_append, MK.out, HNL.out])
      obtain ⟨lb, hlb2⟩ : ∃ lb, lb = lp ++ l := ⟨_, rfl⟩
      rw [← hlb2] at o5 HLL HRD
      have HT5 := hid b5
      clear hlb2 s3 hs3 hi hz0 hz1 hz2 o4 b4 b4' b5' hg4 hat4 hg5 hat5 hz4 b5
      refine (rd_new A5 (kp + n) c5 lb w5 HLL.out o5.sees (by omega)).mono ?_
      rintro e w6 ⟨g, rfl, r6, b6⟩
      have HG6 : Hid (w3.heap.size ≤ g) := hid (Nat.le_trans HT5.out.size r6.block.1)
      have HT6 := hid (HT5.out.trans (b6.mono HT5.out.size))
      have hrd := cread_any w5.heap.size g lb 0 0 w6 r6 (Nat.zero_le _) (by rw [HLL.out]; omega)
      rw [(HRD.out trivial).1] at hrd
      have HR6 := hid hrd
      have HDE := hid (HRD.out trivial).2
      clear b6 o5 HT5 hrd HRD r6
      go_wp2_with fail
      refine HR6.out.mono ?_
      rintro e w7b ⟨⟨X2, rfl, okX2, cab2, n2, _⟩, hr2, hg2⟩
      have HT7 := hid (below_row HT6.out hg2 HG6.out)
      obtain ⟨x2, hx2⟩ : ∃ c, c = cmc X2 := ⟨_, rfl⟩
      have HX2L : Hid (x2.length = 63) := hid (by rw [hx2]; exact cmc_len okX2.e8 okX2.p8)
      have HX2O : Hid (x2.toArray.all (·.oneCell') = true) := hid (by rw [hx2]; exact all_oneCell_toArray (cmc_one X2))
      have HX2 := hid hx2
      rw [← hx2]
      clear hx2
      have TH : (w7b.alloc (.cells zA63 32)).there w7b.heap.size 0 63 := (Blk.new w7b (cmc zcm) 32).there 0 63 (by decide)
      obtain ⟨W8, hW8⟩ : ∃ W, W = (w7b.alloc (.cells zA63 32)).setCells w7b.heap.size 0 x2 := ⟨_, rfl⟩
      have HW8 := hid hW8
      have hbA := below_a1C w7b (.cells zA63 32)
      have hnb : Blk W8 w7b.heap.size x2 := by rw [hW8]; exact (Blk.new w7b (cmc zcm) 32).wholeT (by rw [HX2L.out]; rfl)
      have hlb : Le w7b W8 := by rw [hW8]; exact below_sets (Nat.le_refl _) x2 0 (below_a1C w7b _)
      clear hW8 hbA
      have HR8 : Hid (Rd W8 w5.heap.size g lb kp 0) := hid (hr2.later hlb)
      have HT8 := hid (HT7.out.trans (hlb.mono HT7.out.size))
      have HK8 := hid (okX2.later hlb)
      have HN2 := hid hnb
      have HCB2 := hid cab2
      have HN31 : Hid (X2.n ≤ 65536) := hid (by omega)
      clear hr2 hg2 hnb hlb okX2 cab2 n2 HT6 HR6
      go_wp2_with (first
        | (refine wpList_store_asC rfl 32 (.tmp 10) (.tmp 71) rfl w7b.heap.size 0 x2.toArray rfl rfl (by simpa [HX2L.out] using TH) (by simpa [HX2L.out] using info_cm) HX2O.out W8 HW8.out ?_)
        | fail)
      clear TH HW8
      generalize w7b.heap.size = H2 at *
      refine (HDE.out A3 c3 W8 ((HS3.out.below HT8.out).more HT8.out.size)).mono ?_
      rintro e w9b ⟨⟨X3, rfl, okX3, cab3, n3⟩, hb9⟩
      obtain ⟨x3, hx3⟩ : ∃ c, c = cmc X3 := ⟨_, rfl⟩
      have HX3L : Hid (x3.length = 63) := hid (by rw [hx3]; exact cmc_len okX3.e8 okX3.p8)
      have HX3O : Hid (x3.toArray.all (·.oneCell') = true) := hid (by rw [hx3]; exact all_oneCell_toArray (cmc_one X3))
      have HX3 := hid hx3
      rw [← hx3]
      clear hx3
      have TH : (w9b.alloc (.cells zA63 32)).there w9b.heap.size 0 63 := (Blk.new w9b (cmc zcm) 32).there 0 63 (by decide)
      obtain ⟨W10, hW10⟩ : ∃ W, W = (w9b.alloc (.cells zA63 32)).setCells w9b.heap.size 0 x3 := ⟨_, rfl⟩
      have HW10 := hid hW10
      have hbA := below_a1C w9b (.cells zA63 32)
      have hnb : Blk W10 w9b.heap.size x3 := by rw [hW10]; exact (Blk.new w9b (cmc zcm) 32).wholeT (by rw [HX3L.out]; rfl)
      have hlb : Le w9b W10 := by rw [hW10]; exact below_sets (Nat.le_refl _) x3 0 (below_a1C w9b _)
      clear hW10 hbA
      have l810 : Le W8 W10 := hb9.trans (hlb.mono hb9.size)
      have HR10 := hid (HR8.out.later l810)
      have HT10 := hid (HT8.out.trans (l810.mono HT8.out.size))
      have HK2 := hid (HK8.out.later l810)
      have HK3 := hid (okX3.later hlb)
      have HC2 := hid (HN2.out.later l810)
      have HC3 := hid hnb
      have HC0 := hid (HBC.out.below HT10.out HBC.out.lt)
      have HB10 := hid (HB3.out.trans (HT10.out.mono HB3.out.size))
      have HCB3 := hid cab3
      have HN33 : Hid (X3.n ≤ 65536) := hid (by omega)
      clear hb9 hnb hlb okX3 cab3 n3 l810 HR8 HT8 HK8 HN2 HBC HDE HS3
      go_wp2_with (first
        | (refine wpList_store_asC rfl 32 (.tmp 11) (.tmp 75) rfl w9b.heap.size 0 x3.toArray rfl rfl (by simpa [HX3L.out] using TH) (by simpa [HX3L.out] using info_cm) HX3O.out W10 HW10.out ?_)
        | fail)
      clear TH HW10
      generalize w9b.heap.size = H3 at *
      refine (rd_err w5.heap.size g lb kp 0 W10 HR10.out).mono ?_
      rintro e wd ⟨rfl, rfl⟩
      have RG2 := HC2.out.range 0 x2 (by rw [List.drop_zero, List.take_length])
      have RG0 := HC0.out.range 0 ca (by rw [List.drop_zero, List.take_length])
      have hs2 := rcsame_any X2 c0 W10 HK2.out (HOK.out W10 HB10.out) HN31.out
      rw [decide_eq_true (cab_csm HCB2.out), ← HX2.out, ← HCA.out] at hs2
      have HS2 := hid hs2
      clear hs2
      go_wp2_with (first
        | (refine wpList_load_g (by rfl) 32 (.tmp 10) rfl H2 0 rfl x2 _ RG2 hu rfl (by rw [HX2L.out]; exact info_cm) ?_)
        | (refine wpList_load_g (by rfl) 32 (.tmp 2) rfl w.heap.size 0 rfl ca _ RG0 hu rfl (by rw [HLA.out]; exact info_cm) ?_)
        | fail)
      refine HS2.out.mono ?_
      rintro e w11 ⟨rfl, hb11⟩
      have HR11 := hid (HR10.out.later hb11)
      have HK11 := hid (HK3.out.later hb11)
      have HC11 := hid (HC3.out.later hb11)
      have HC01 := hid (HC0.out.later hb11)
      have HB11 := hid (HB10.out.trans (hb11.mono HB10.out.size))
      clear hb11 HR10 HK2 HK3 HC2 HC3 HC0 HB10 HS2 RG2 RG0
      go_wp2_with fail
      refine (rd_left w5.heap.size g lb kp 0 w11 HR11.out (by rw [HLL.out]; omega) (by rw [HLL.out]; omega)).mono ?_
      rintro e wd ⟨rfl, nk, rfl⟩
      rw [show ((lb.length : Nat) : Int) - (kp : Int) = (n : Int) from by rw [HLL.out]; omega]
      have hbd : Below w11.heap.size w11 (w11.drewN nk) := below_drewN (Below.refl _ _) nk
      have HK12 := hid (HK11.out.later hbd)
      have HB12 := hid (HB11.out.trans (hbd.mono HB11.out.size))
      have RG3 := (HC11.out.later hbd).range 0 x3 (by rw [List.drop_zero, List.take_length])
      have RG0 := (HC01.out.later hbd).range 0 ca (by rw [List.drop_zero, List.take_length])
      clear hbd HK11 HC11 HC01 HB11 HR11
      generalize w11.drewN nk = w12 at *
      have hs2 := rcsame_any X3 c0 w12 HK12.out (HOK.out w12 HB12.out) HN33.out
      rw [decide_eq_true (cab_csm HCB3.out), ← HX3.out, ← HCA.out] at hs2
      have HS2 := hid hs2
      clear hs2
      go_wp2_with (first
        | (refine wpList_load_g (by rfl) 32 (.tmp 11) rfl H3 0 rfl x3 _ RG3 hu rfl (by rw [HX3L.out]; exact info_cm) ?_)
        | (refine wpList_load_g (by rfl) 32 (.tmp 2) rfl w.heap.size 0 rfl ca _ RG0 hu rfl (by rw [HLA.out]; exact info_cm) ?_)
        | fail)
      refine HS2.out.mono ?_
      rintro e w13 ⟨rfl, hb13⟩
      have HB13 := hid (HB12.out.trans (hb13.mono HB12.out.size))
      clear hb13 HS2 HK12 HB12 RG3 RG0
      go_wp2_with fail
      refine (cm_awake _).mono ?_
      rintro e we ⟨rfl, be⟩
      go_wp2_with fail
      go_ret
      exact ⟨rfl, HB13.out.trans (be.mono HB13.out.size)⟩
  · have tc : (eC == 0) = false := by simpa using ec0
    clear ec0 HSX
    go_wp2_with fail
    refine wp_region_steady [] 104 (by kernel_rfl) (by kernel_rfl) (by kernel_rfl) (by rfl) ?_
    iterate 8 (refine wpG_quiet (by rfl) (by rfl) (by rfl) (fun K hK => ?_); go_big_quiet_op; refine hK _ ?_; clear hK K)
    try simp only [c1n]
    iterate 2 (refine wpG_quiet (by rfl) (by rfl) (by rfl) (fun K hK => ?_); go_big_quiet_op; refine hK _ ?_; clear hK K)
    refine wpG_call (by rfl) (by rfl) 14 #[.pointer (some ⟨gr, 0, none⟩)] (.int .i64 eC) (by intro _; simp [go_sem]) (by kernel_rfl) (fun w1 hl => HEC.out w1 (L77.trans hl.1)) ?_
    simp only [pq4]
    iterate 2 (refine wpG_quiet (by rfl) (by rfl) (by rfl) (fun K hK => ?_); go_big_quiet_op; refine hK _ ?_; clear hK K)
    iterate 13 (refine wpG_skip (by rfl) ?_; simp only [pq4])
    iterate 2 (refine wpG_quiet (by rfl) (by rfl) (by rfl) (fun K hK => ?_); go_big_quiet_op; refine hK _ ?_; clear hK K)
    refine wpG_nil (fun w8 l8 _ => ?_)
    have RG := (HBE.out _ l8).range 0 ca (by rw [List.drop_zero, List.take_length])
    clear hs7
    go_wp2_with (first
      | (refine wpList_load_mid rfl 32 (.tmp 2) rfl w.heap.size 0 rfl ca _ RG hu rfl (by rw [HLA.out]; exact info_cm) ?_)
      | fail)
    refine (HKE.out _ (HB7.out.trans (l8.mono HB7.out.size))).mono ?_
    rintro e w9 ⟨rfl, b9⟩
    have l9 := l8.trans b9
    clear RG b9 l8
    cases pz
    · go_wp2_with fail
      refine (cm_awake _).mono ?_
      rintro e wz ⟨rfl, bz⟩
      go_wp2_with fail
      go_ret
      exact ⟨rfl, (HB7.out.trans (l9.mono HB7.out.size)).trans (bz.mono (HB7.out.trans (l9.mono HB7.out.size)).size)⟩
    · have RG := (HBE.out _ l9).range 0 ca (by rw [List.drop_zero, List.take_length])
      go_wp2_with (first
        | (refine wpList_load_mid rfl 32 (.tmp 2) rfl w.heap.size 0 rfl ca _ RG hu rfl (by rw [HLA.out]; exact info_cm) ?_)
        | fail)
      refine (HPE.out _ (HB7.out.trans (l9.mono HB7.out.size))).mono ?_
      rintro e w3 ⟨A3, c3, rfl, o3, b3⟩
      rw [MK.out] at o3 ⊢
      have l10 := l9.trans b3
      have s3 := (o3.sees).more (Nat.le_refl _)
      have hs3 := HS7.out _ l10
      have HS3 := hid s3
      have HBC := hid (HBE.out _ l10)
      have HB3 := hid (HB7.out.trans (l10.mono HB7.out.size))
      have hkp := HKP.out
      clear RG o3 b3 l9 l10
      obtain ⟨hi, hz0, hz1, hz2⟩ := HI.out
      go_wp2_with (first
        | (at_builtin
           refine wpList_app _ rfl (.tmp 64) (.tmp 65) _ rfl w3.heap.size 5 i0 _ 1 Try.underlying33 hi hz0 hz1 hz2 rfl (.slice (some ⟨w3.heap.size, 0, none⟩) 0 0) [] 0 rfl rfl (own_lit w3 w3.heap.size 5 #[] (Nat.le_refl _) (by simp [maxLen])) w3.heap.size A3 c3 (bvs lp) kp rfl (by rw [bvs_length, MK.out]) (s3.alloc (Nat.le_refl _) _) (bvs_one _) (by simp [maxLen]; omega) (by omega) (by simp) ?_
           intro A4 c4 w4 o4 b4' hg4 hat4; simp only [Nat.zero_add, List.nil_append] at o4 hat4
           have b4 : Below w3.heap.size w3 w4 := ((Below.refl _ _).alloc (Nat.le_refl _) _).trans b4'
           have hz4 := b4'.size
           simp only [World.alloc] at hz4)
        | (at_builtin
           refine wpList_app _ rfl (.tmp 66) (.tmp 67) _ rfl w3.heap.size 5 i0 _ 1 Try.underlying33 hi hz0 hz1 hz2 rfl (.slice A4 kp c4) (bvs lp) kp rfl (by rw [bvs_length, MK.out]) o4 w3.heap.size A c (bvs l) n rfl (by rw [bvs_length, HNL.out]) ((hs3.alloc (Nat.le_refl _) _).below b4') (bvs_one _) (by simp [maxLen]; omega) (by omega) (((Below.refl _ _).alloc (Nat.le_refl _) _).trans b4').size ?_
           intro A5 c5 w5 o5 b5' hg5 hat5
           have b5 : Below w3.heap.size w3 w5 := b4.trans b5')
        | fail)
      rw [← bvs_append] at o5
      have HLL : Hid ((lp ++ l).length = kp + n) := hid (by rw [List.length_append, MK.out, HNL.out])
      obtain ⟨lb, hlb2⟩ : ∃ lb, lb = lp ++ l := ⟨_, rfl⟩
      rw [← hlb2] at o5 HLL HRD
      have HT5 := hid b5
      clear hlb2 s3 hs3 hi hz0 hz1 hz2 o4 b4 b4' b5' hg4 hat4 hg5 hat5 hz4 b5
      refine (rd_new A5 (kp + n) c5 lb w5 HLL.out o5.sees (by omega)).mono ?_
      rintro e w6 ⟨g, rfl, r6, b6⟩
      have HG6 : Hid (w3.heap.size ≤ g) := hid (Nat.le_trans HT5.out.size r6.block.1)
      have HT6 := hid (HT5.out.trans (b6.mono HT5.out.size))
      have hrd := cread_any w5.heap.size g lb 0 0 w6 r6 (Nat.zero_le _) (by rw [HLL.out]; omega)
      rw [(HRD.out trivial).1] at hrd
      have HR6 := hid hrd
      have HDE := hid (HRD.out trivial).2
      clear b6 o5 HT5 hrd HRD r6
      go_wp2_with fail
      refine HR6.out.mono ?_
      rintro e w7b ⟨⟨X2, rfl, okX2, cab2, n2, _⟩, hr2, hg2⟩
      have HT7 := hid (below_row HT6.out hg2 HG6.out)
      obtain ⟨x2, hx2⟩ : ∃ c, c = cmc X2 := ⟨_, rfl⟩
      have HX2L : Hid (x2.length = 63) := hid (by rw [hx2]; exact cmc_len okX2.e8 okX2.p8)
      have HX2O : Hid (x2.toArray.all (·.oneCell') = true) := hid (by rw [hx2]; exact all_oneCell_toArray (cmc_one X2))
      have HX2 := hid hx2
      rw [← hx2]
      clear hx2
      have TH : (w7b.alloc (.cells zA63 32)).there w7b.heap.size 0 63 := (Blk.new w7b (cmc zcm) 32).there 0 63 (by decide)
      obtain ⟨W8, hW8⟩ : ∃ W, W = (w7b.alloc (.cells zA63 32)).setCells w7b.heap.size 0 x2 := ⟨_, rfl⟩
      have HW8 := hid hW8
      have hbA := below_a1C w7b (.cells zA63 32)
      have hnb : Blk W8 w7b.heap.size x2 := by rw [hW8]; exact (Blk.new w7b (cmc zcm) 32).wholeT (by rw [HX2L.out]; rfl)
      have hlb : Le w7b W8 := by rw [hW8]; exact below_sets (Nat.le_refl _) x2 0 (below_a1C w7b _)
      clear hW8 hbA
      have HR8 : Hid (Rd W8 w5.heap.size g lb kp 0) := hid (hr2.later hlb)
      have HT8 := hid (HT7.out.trans (hlb.mono HT7.out.size))
      have HK8 := hid (okX2.later hlb)
      have HN2 := hid hnb
      have HCB2 := hid cab2
      have HN31 : Hid (X2.n ≤ 65536) := hid (by omega)
      clear hr2 hg2 hnb hlb okX2 cab2 n2 HT6 HR6
      go_wp2_with (first
        | (refine wpList_store_asC rfl 32 (.tmp 10) (.tmp 71) rfl w7b.heap.size 0 x2.toArray rfl rfl (by simpa [HX2L.out] using TH) (by simpa [HX2L.out] using info_cm) HX2O.out W8 HW8.out ?_)
        | fail)
      clear TH HW8
      generalize w7b.heap.size = H2 at *
      refine (HDE.out A3 c3 W8 ((HS3.out.below HT8.out).more HT8.out.size)).mono ?_
      rintro e w9b ⟨⟨X3, rfl, okX3, cab3, n3⟩, hb9⟩
      obtain ⟨x3, hx3⟩ : ∃ c, c = cmc X3 := ⟨_, rfl⟩
      have HX3L : Hid (x3.length = 63) := hid (by rw [hx3]; exact cmc_len okX3.e8 okX3.p8)
      have HX3O : Hid (x3.toArray.all (·.oneCell') = true) := hid (by rw [hx3]; exact all_oneCell_toArray (cmc_one X3))
      have HX3 := hid hx3
      rw [← hx3]
      clear hx3
      have TH : (w9b.alloc (.cells zA63 32)).there w9b.heap.size 0 63 := (Blk.new w9b (cmc zcm) 32).there 0 63 (by decide)
      obtain ⟨W10, hW10⟩ : ∃ W, W = (w9b.alloc (.cells zA63 32)).setCells w9b.heap.size 0 x3 := ⟨_, rfl⟩
      have HW10 := hid hW10
      have hbA := below_a1C w9b (.cells zA63 32)
      have hnb : Blk W10 w9b.heap.size x3 := by rw [hW10]; exact (Blk.new w9b (cmc zcm) 32).wholeT (by rw [HX3L.out]; rfl)
      have hlb : Le w9b W10 := by rw [hW10]; exact below_sets (Nat.le_refl _) x3 0 (below_a1C w9b _)
      clear hW10 hbA
      have l810 : Le W8 W10 := hb9.trans (hlb.mono hb9.size)
      have HR10 := hid (HR8.out.later l810)
      have HT10 := hid (HT8.out.trans (l810.mono HT8.out.size))
      have HK2 := hid (HK8.out.later l810)
      have HK3 := hid (okX3.later hlb)
      have HC2 := hid (HN2.out.later l810)
      have HC3 := hid hnb
      have HC0 := hid (HBC.out.below HT10.out HBC.out.lt)
      have HB10 := hid (HB3.out.trans (HT10.out.mono HB3.out.size))
      have HCB3 := hid cab3
      have HN33 : Hid (X3.n ≤ 65536) := hid (by omega)
      clear hb9 hnb hlb okX3 cab3 n3 l810 HR8 HT8 HK8 HN2 HBC HDE HS3
      go_wp2_with (first
        | (refine wpList_store_asC rfl 32 (.tmp 11) (.tmp 75) rfl w9b.heap.size 0 x3.toArray rfl rfl (by simpa [HX3L.out] using TH) (by simpa [HX3L.out] using info_cm) HX3O.out W10 HW10.out ?_)
        | fail)
      clear TH HW10
      generalize w9b.heap.size = H3 at *
      refine (rd_err w5.heap.size g lb kp 0 W10 HR10.out).mono ?_
      rintro e wd ⟨rfl, rfl⟩
      have RG2 := HC2.out.range 0 x2 (by rw [List.drop_zero, List.take_length])
      have RG0 := HC0.out.range 0 ca (by rw [List.drop_zero, List.take_length])
      have hs2 := rcsame_any X2 c0 W10 HK2.out (HOK.out W10 HB10.out) HN31.out
      rw [decide_eq_true (cab_csm HCB2.out), ← HX2.out, ← HCA.out] at hs2
      have HS2 := hid hs2
      clear hs2
      go_wp2_with (first
        | (refine wpList_load_g (by rfl) 32 (.tmp 10) rfl H2 0 rfl x2 _ RG2 hu rfl (by rw [HX2L.out]; exact info_cm) ?_)
        | (refine wpList_load_g (by rfl) 32 (.tmp 2) rfl w.heap.size 0 rfl ca _ RG0 hu rfl (by rw [HLA.out]; exact info_cm) ?_)
        | fail)
      refine HS2.out.mono ?_
      rintro e w11 ⟨rfl, hb11⟩
      have HR11 := hid (HR10.out.later hb11)
      have HK11 := hid (HK3.out.later hb11)
      have HC11 := hid (HC3.out.later hb11)
      have HC01 := hid (HC0.out.later hb11)
      have HB11 := hid (HB10.out.trans (hb11.mono HB10.out.size))
      clear hb11 HR10 HK2 HK3 HC2 HC3 HC0 HB10 HS2 RG2 RG0
      go_wp2_with fail
      refine (rd_left w5.heap.size g lb kp 0 w11 HR11.out (by rw [HLL.out]; omega) (by rw [HLL.out]; omega)).mono ?_
      rintro e wd ⟨rfl, nk, rfl⟩
      rw [show ((lb.length : Nat) : Int) - (kp : Int) = (n : Int) from by rw [HLL.out]; omega]
      have hbd : Below w11.heap.size w11 (w11.drewN nk) := below_drewN (Below.refl _ _) nk
      have HK12 := hid (HK11.out.later hbd)
      have HB12 := hid (HB11.out.trans (hbd.mono HB11.out.size))
      have RG3 := (HC11.out.later hbd).range 0 x3 (by rw [List.drop_zero, List.take_length])
      have RG0 := (HC01.out.later hbd).range 0 ca (by rw [List.drop_zero, List.take_length])
      clear hbd HK11 HC11 HC01 HB11 HR11
      generalize w11.drewN nk = w12 at *
      have hs2 := rcsame_any X3 c0 w12 HK12.out (HOK.out w12 HB12.out) HN33.out
      rw [decide_eq_true (cab_csm HCB3.out), ← HX3.out, ← HCA.out] at hs2
      have HS2 := hid hs2
      clear hs2
      go_wp2_with (first
        | (refine wpList_load_g (by rfl) 32 (.tmp 11) rfl H3 0 rfl x3 _ RG3 hu rfl (by rw [HX3L.out]; exact info_cm) ?_)
        | (refine wpList_load_g (by rfl) 32 (.tmp 2) rfl w.heap.size 0 rfl ca _ RG0 hu rfl (by rw [HLA.out]; exact info_cm) ?_)
        | fail)
      refine HS2.out.mono ?_
      rintro e w13 ⟨rfl, hb13⟩
      have HB13 := hid (HB12.out.trans (hb13.mono HB12.out.size))
      clear hb13 HS2 HK12 HB12 RG3 RG0
      go_wp2_with fail
      refine (cm_awake _).mono ?_
      rintro e we ⟨rfl, be⟩
      go_wp2_with fail
      go_ret
      exact ⟨rfl, HB13.out.trans (be.mono HB13.out.size)⟩
end Go.Proofs.Ytnhcjadkbogioaa
