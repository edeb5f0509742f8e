/- Commands as the document reads them: what Read returns: kind 1. -/
import Derived.Test.YtnhcjadkbogioaaGreatM25
set_option maxRecDepth 100000
set_option maxHeartbeats 12800000
namespace Go.Proofs.YtnhcjadkbogioaaGreat
set_option linter.unusedVariables false
set_option linter.unusedSimpArgs false
open Go Go.RowKit OctM BitM
theorem rcread_1 (base g : Nat) (l : List UInt8) (a : Nat) (e : Int) (w : World) (h : Rr w base g (l.drop a) e) (ha : a ≤ l.length) (hm : l.length ≤ 4000) (hk : (roA l a e).1 = 1) :
    Calls Tryz.prog 8 #[.pointer (some ⟨g, 0, none⟩)] w (CmReadR w base g l (cmOut l a e)) := by
  have hu := Tryz.underlying41
  have hgl := h.block.2
  have HA := Lib.hid (fun (wz : World) (hz : Rr wz base g (l.drop a) e) => (rr_abvE base g l a e 5 wz hz hm).mono (R' := fun r w' => r = .returned (.int .i64 1) ∧ Rr w' base g (l.drop (roA l a e).2.1) (roA l a e).2.2 ∧ wz.grownBy w' (some g)) (by
    rintro r w' ⟨rfl, hr, hG⟩
    exact ⟨by rw [show (abvOut l a e 5).1 = 1 from hk]; rfl, hr, hG⟩))
  obtain ⟨T, hT⟩ : ∃ T, T = cmOut l a e := ⟨_, rfl⟩
  have hT2 : T = (if (roRaw l a e).2.2 = 0 then (roRaw l a e).1 else zcm, (roRaw l a e).2.1, (roRaw l a e).2.2) := hT
  rw [← hT]
  have at0 : (roA l a e).2.1 ≤ l.length := abvOut_at _ _ _ _ ha
  rw [ro_1 hk] at hT2
  simp only at hT2
  obtain ⟨q0, hq0⟩ : ∃ q, q = roA l a e := ⟨_, rfl⟩
  rw [← hq0] at HA at0
  obtain ⟨q1, hq1⟩ : ∃ q, q = roE l a e := ⟨_, rfl⟩
  have eq1 : q1 = editOut l q0.2.1 q0.2.2 := by rw [hq1, hq0]; rfl
  have at1 : q1.2.1 ≤ l.length := by rw [eq1]; exact editOut_at _ _ _ at0
  obtain ⟨cs, hcs⟩ : ∃ cs, cs = (ec6 q1.1).toArray := ⟨_, rfl⟩
  have h8 : q1.1.2.2.2.2.2.length = 8 := by rw [eq1]; exact editOut_len _ _ _
  have HCS : Hid (cs.size = 29) := hid (by rw [hcs]; exact ecells_len _ _ _ _ _ h8)
  have HON : Hid (cs.all (·.oneCell') = true) := hid (by rw [hcs]; exact all_oneCell_toArray (ecells_one _ _ _ _ _ _))
  have HU := hid (by rw [eq1]; exact editOut_u32 l q0.2.1 q0.2.2 : ((u32 q1.1.2.2.2.1).toNat : Int) = q1.1.2.2.2.1 ∧ ((u32 q1.1.2.2.2.2.1).toNat : Int) = q1.1.2.2.2.2.1)
  have HC := hid hcs
  have H8 := hid h8
  clear hcs h8
  have HT0 : Hid (T = (if q1.2.2 = 0 then rx1 l a e else zcm, q1.2.1, q1.2.2)) := hid (by rw [hT2, hq1])
  have HRW : Hid (rx1 l a e = edCm q1.1 { zcm with kd := 1 }) := hid (by rw [hq1]; rfl)
  have EQ1 := hid eq1
  clear eq1 hq1 hq0 hT hT2 hk ha
  obtain ⟨zs, hzs⟩ : ∃ zs, zs = cmc zcm := ⟨_, rfl⟩
  have HZL : Hid (zs.length = 63) := hid (by rw [hzs]; rfl)
  have HZO : Hid (zs.toArray.all (·.oneCell') = true) := hid (by rw [hzs]; exact all_oneCell_toArray (cmc_one zcm))
  have HZS := hid hzs
  obtain ⟨x0, hx0⟩ : ∃ c, c = cmc { zcm with kd := 1 } := ⟨_, rfl⟩
  have HX0 := hid hx0
  have HX0L : Hid (x0.length = 63) := hid (by rw [hx0]; rfl)
  have HX0O : Hid (x0.toArray.all (·.oneCell') = true) := hid (by rw [hx0]; exact all_oneCell_toArray (cmc_one _))
  obtain ⟨W0, hW0⟩ : ∃ W0, W0 = w.alloc (.cells zA63 41) := ⟨_, rfl⟩
  have HW0 := hid hW0
  have HR0 : Hid (Rr W0 base g (l.drop a) e) := hid (by rw [hW0]; exact h.later (below_a1C w _))
  have HB0 : Hid (Blk W0 w.heap.size (cmc zcm)) := hid (by rw [hW0]; exact Blk.new w (cmc zcm) 41)
  have HG0 : Hid (w.grownBy W0 (some g)) := hid (by rw [hW0]; exact grown_onto (World.grownBy.refl w (some g)) (below_a1C w _))
  have HGL := hid hgl
  have HZ0 : Hid (W0.heap.size = w.heap.size + 1) := hid (by rw [hW0]; simp)
  clear hW0 hx0 hzs hgl h
  go_enter Tryz.func8, Tryz.ntmps8
  go_wp2_with fail
  rw [← HW0.out]
  clear HW0
  refine (HA.out W0 HR0.out).mono ?_
  rintro r w1 ⟨rfl, hr1, hG1⟩
  have HR1 := hid hr1
  have HB1 := hid (HB0.out.kept hG1 (by have := HGL.out; intro e; injection e with e; omega))
  have HG1 := hid (HG0.out.trans hG1)
  have HS1 : Hid (w.heap.size < w1.heap.size) := hid (by have := hG1.size; have := HZ0.out; omega)
  clear hr1 hG1 HA HR0 HB0 HG0 HZ0
  have TH : (w1.alloc (.cells zA63 41)).there w1.heap.size 0 63 := (Blk.new w1 (cmc zcm) 41).there 0 63 (by decide)
  obtain ⟨W2, hW2⟩ : ∃ W2, W2 = (w1.alloc (.cells zA63 41)).setCells w1.heap.size 0 x0 := ⟨_, rfl⟩
  have HW2 := hid hW2
  have hbA := below_a1C w1 (.cells zA63 41)
  have HR : Hid (RE w base g w1.heap.size l W2 { zcm with kd := 1 } q0.2.1 q0.2.2) := Lib.hid (by
    have hlt := HR1.out.block.2
    rw [hW2]
    refine ⟨(HR1.out.later hbA).off (grown_sets w1.heap.size x0 0 _) (by omega), ?_, (HB1.out.later hbA).setsOther (by have := HS1.out; omega) _ _, ⟨rfl, rfl, rfl, Nat.le_refl _, Nat.zero_le _, Sees.nil_⟩, Nat.zero_le _, fun ad e hn => (by cases e), grown_new (grown_onto HG1.out hbA) (grown_sets w1.heap.size x0 0 _) (Nat.le_of_lt HS1.out), HGL.out, HS1.out⟩
    rw [← HX0.out]
    exact (Blk.new w1 (cmc zcm) 41).wholeT (by rw [HX0L.out]; rfl))
  have k0 : W2.cell? ⟨w1.heap.size, 0, none⟩ = some (.int .i64 1) := HR.out.c.cell (j := 0) rfl
  clear hW2 hbA HR1 HB1 HG1 HS1
  go_wp2_with (first
    | (refine wpList_store_asC rfl 41 (.tmp 3) (.tmp 6) rfl w1.heap.size 0 x0.toArray rfl (by rw [HX0.out]; rfl) (by simpa [HX0L.out] using TH) (by simpa [HX0L.out] using info_cm) HX0O.out W2 HW2.out ?_)
    | fail)
  clear TH HW2 HX0 HX0L HX0O k0
  generalize w1.heap.size = gC at *
  refine (HR.out.edit at0 hm q1 EQ1.out cs HC.out).mono ?_
  rintro r v1 ⟨rfl, HR1⟩
  have HR := hid HR1
  clear HR1
  have th := HR.out.c.there 1 29 (by rw [cmc_len HR.out.ok.e8 HR.out.ok.p8]; omega)
  obtain ⟨V1, hW⟩ : ∃ W, W = v1.setCells gC 1 cs.toList := ⟨_, rfl⟩
  have HW := hid hW
  have HR1 := HR.out.puts (edCm q1.1 { zcm with kd := 1 }) ⟨H8.out, HR.out.ok.p8, HR.out.ok.len, HR.out.ok.cap, HR.out.ok.max, HR.out.ok.see⟩ HR.out.n31 (HR.out.low rfl rfl) 1 cs.toList (by rw [Array.length_toList, HCS.out]; omega) (by rw [HC.out]; exact cm_putE HR.out.ok.e8 HR.out.ok.p8 q1.1 H8.out HU.out.1 HU.out.2)
  rw [← hW] at HR1
  have HR := hid HR1
  clear hW HR1
  have k0 : V1.cell? ⟨gC, 0, none⟩ = some (.int .i64 1) := HR.out.c.cell (cm_at HR.out.ok.e8 HR.out.ok.p8).1
  obtain ⟨X, hX⟩ : ∃ X : Cm, X = (edCm q1.1 { zcm with kd := 1 }) := ⟨_, rfl⟩
  rw [← hX] at HR
  have HXR : Hid (cab X = rx1 l a e) := hid (by rw [hX, HRW.out]; rfl)
  clear hX
  have kE : V1.cell? ⟨g, 1, none⟩ = some (.int .i64 q1.2.2) := HR.out.rd.facts.2.1
  obtain ⟨e5, he5⟩ : ∃ z, z = q1.2.2 := ⟨_, rfl⟩
  rw [← he5] at kE
  have HE5 := hid he5
  clear he5
  by_cases he : e5 = 0
  · have ke : (e5 != 0) = false := by simpa using he
    have RB := HR.out.z
    obtain ⟨xc, hxc⟩ : ∃ c, c = cmc X := ⟨_, rfl⟩
    have HXL : Hid (xc.length = 63) := hid (by rw [hxc]; exact cmc_len HR.out.ok.e8 HR.out.ok.p8)
    have HXO : Hid (xc.toArray.all (·.oneCell') = true) := hid (by rw [hxc]; exact all_oneCell_toArray (cmc_one X))
    have HXC := hid hxc
    have RG := HR.out.c.range 0 xc (by rw [← hxc, List.drop_zero, List.take_length])
    have T8 := RB.there 0 63 (by decide)
    have FIN := RB.wholeT (ds := xc) HXL.out
    have O8 := HXO.out
    have hfr : farCm w.heap.size X := HR.out.fl.far (Nat.le_of_lt HR.out.hC)
    have okR : okCm (V1.setCells w.heap.size 0 xc) X := HR.out.ok.kept2 hfr hfr (Grown2.two (grown_sets w.heap.size xc 0 V1))
    have lowR : lowCm w.heap.size X := fun ad e hn => by have := HR.out.fl ad e hn; have := HR.out.hC; omega
    have R9 := HR.out.rd.off (grown_sets w.heap.size xc 0 V1) (by have := HGL.out; omega)
    have G9 := grown_new HR.out.gr (grown_sets w.heap.size xc 0 V1) (Nat.le_refl _)
    have HT := HT0.out
    rw [if_pos (by rw [← HE5.out]; exact he)] at HT
    have HT := hid HT
    clear hxc RB hfr he
    go_wp2_with (first
      | (refine wpList_store_asC rfl 38 (.tmp 19) (.tmp 18) rfl gC 1 cs rfl rfl (by rw [HCS.out]; exact th) (by rw [HCS.out]; exact info_edit) HON.out V1 HW.out ?_)
      | (refine wpList_load_mid rfl 41 (.tmp 3) rfl gC 0 rfl xc _ RG hu rfl (by rw [HXL.out]; exact info_cm) ?_)
      | (refine wpList_store_mid rfl 41 (.tmp 2) (.tmp 53) rfl w.heap.size 0 xc.toArray rfl rfl (by simpa [HXL.out] using T8) (by simpa [HXL.out] using info_cm) O8 ?_)
      | fail)
    exact bodyPost_ret (v := .agg xc.toArray) (tok_results (q := 2) rfl _ _ w.heap.size xc _ rfl FIN hu rfl (by rw [HXL.out]; exact info_cm)) rfl ⟨⟨X, by rw [HXC.out], okR, by rw [HT.out]; exact HXR.out, HR.out.n31, lowR⟩, by rw [HT.out]; exact R9, G9⟩
  · have ke : (e5 != 0) = true := by simpa using he
    have RB := HR.out.z
    have T8 := RB.there 0 63 (by decide)
    have FIN := RB.wholeT (ds := zs) HZL.out
    have okR := zcm_ok (V1.setCells w.heap.size 0 zs)
    have lowR : lowCm w.heap.size zcm := fun ad e hn => by cases e
    have R9 := HR.out.rd.off (grown_sets w.heap.size zs 0 V1) (by have := HGL.out; omega)
    have G9 := grown_new HR.out.gr (grown_sets w.heap.size zs 0 V1) (Nat.le_refl _)
    have HT := HT0.out
    rw [if_neg (by rw [← HE5.out]; exact he)] at HT
    have HT := hid HT
    have O8 := HZO.out
    clear RB he
    go_wp2_with (first
      | (refine wpList_store_asC rfl 38 (.tmp 19) (.tmp 18) rfl gC 1 cs rfl rfl (by rw [HCS.out]; exact th) (by rw [HCS.out]; exact info_edit) HON.out V1 HW.out ?_)
      | (refine wpList_store_mid rfl 41 (.tmp 2) (.tmp 52) rfl w.heap.size 0 zs.toArray rfl (by rw [HZS.out]; rfl) (by simpa [HZL.out] using T8) (by simpa [HZL.out] using info_cm) O8 ?_)
      | fail)
    exact bodyPost_ret (v := .agg zs.toArray) (tok_results (q := 2) rfl _ _ w.heap.size zs _ rfl FIN hu rfl (by rw [HZL.out]; exact info_cm)) rfl ⟨⟨zcm, by rw [HZS.out], okR, by rw [HT.out]; rfl, Nat.zero_le _, lowR⟩, by rw [HT.out]; exact R9, G9⟩
theorem rcread_2 (base g : Nat) (l : List UInt8) (a : Nat) (e : Int) (w : World) (h : Rr w base g (l.drop a) e) (ha : a ≤ l.length) (hm : l.length ≤ 4000) (hk : (roA l a e).1 = 2) :
    Calls Tryz.prog 8 #[.pointer (some ⟨g, 0, none⟩)] w (CmReadR w base g l (cmOut l a e)) := by
  have hu := Tryz.underlying41
  have hgl := h.block.2
  have HA := Lib.hid (fun (wz : World) (hz : Rr wz base g (l.drop a) e) => (rr_abvE base g l a e 5 wz hz hm).mono (R' := fun r w' => r = .returned (.int .i64 2) ∧ Rr w' base g (l.drop (roA l a e).2.1) (roA l a e).2.2 ∧ wz.grownBy w' (some g)) (by
    rintro r w' ⟨rfl, hr, hG⟩
    exact ⟨by rw [show (abvOut l a e 5).1 = 2 from hk]; rfl, hr, hG⟩))
  obtain ⟨T, hT⟩ : ∃ T, T = cmOut l a e := ⟨_, rfl⟩
  have hT2 : T = (if (roRaw l a e).2.2 = 0 then (roRaw l a e).1 else zcm, (roRaw l a e).2.1, (roRaw l a e).2.2) := hT
  rw [← hT]
  have at0 : (roA l a e).2.1 ≤ l.length := abvOut_at _ _ _ _ ha
  rw [ro_2 hk] at hT2
  simp only at hT2
  obtain ⟨q0, hq0⟩ : ∃ q, q = roA l a e := ⟨_, rfl⟩
  rw [← hq0] at HA at0
  obtain ⟨q1, hq1⟩ : ∃ q, q = roD l a e := ⟨_, rfl⟩
  have eq1 : q1 = numOut l q0.2.1 q0.2.2 5 := by rw [hq1, hq0]; rfl
  have at1 : q1.2.1 ≤ l.length := by rw [eq1]; exact numOut_at _ _ _ _ at0
  obtain ⟨k1, hk1⟩ : ∃ k : Int, k = (q1.1 : Int) := ⟨_, rfl⟩
  obtain ⟨q2, hq2⟩ : ∃ q, q = roR l a e := ⟨_, rfl⟩
  have eq2 : q2 = abvOut l q1.2.1 q1.2.2 1099511627776 := by rw [hq2, hq1]; rfl
  have at2 : q2.2.1 ≤ l.length := by rw [eq2]; exact abvOut_at _ _ _ _ at1
  obtain ⟨k2, hk2⟩ : ∃ k : Int, k = (q2.1 : Int) := ⟨_, rfl⟩
  obtain ⟨q3, hq3⟩ : ∃ q, q = roI l a e := ⟨_, rfl⟩
  have eq3 : q3 = abvOut l q2.2.1 q2.2.2 1073741823 := by rw [hq3, hq2]; rfl
  have at3 : q3.2.1 ≤ l.length := by rw [eq3]; exact abvOut_at _ _ _ _ at2
  obtain ⟨k3, hk3⟩ : ∃ k : Int, k = (q3.1 : Int) := ⟨_, rfl⟩
  obtain ⟨q4, hq4⟩ : ∃ q, q = roB l a e := ⟨_, rfl⟩
  have eq4 : q4 = abvOut l q3.2.1 q3.2.2 1099511627776 := by rw [hq4, hq3]; rfl
  have at4 : q4.2.1 ≤ l.length := by rw [eq4]; exact abvOut_at _ _ _ _ at3
  obtain ⟨k4, hk4⟩ : ∃ k : Int, k = (q4.1 : Int) := ⟨_, rfl⟩
  obtain ⟨q5, hq5⟩ : ∃ q, q = roP l a e := ⟨_, rfl⟩
  have eq5 : q5 = patOut l q4.2.1 q4.2.2 := by rw [hq5, hq4]; rfl
  have at5 : q5.2.1 ≤ l.length := by rw [eq5]; exact patOut_at _ _ _ at4
  obtain ⟨cs, hcs⟩ : ∃ cs, cs = (pc3 q5.1).toArray := ⟨_, rfl⟩
  have h8 : q5.1.2.2.length = 8 := by rw [eq5]; exact patOut_len _ _ _
  have HCS : Hid (cs.size = 26) := hid (by rw [hcs]; exact pcells_len _ _ h8)
  have HON : Hid (cs.all (·.oneCell') = true) := hid (by rw [hcs]; exact all_oneCell_toArray (pcells_one _ _ _))
  have HU := hid (by rw [eq5]; exact patOut_u32 l q4.2.1 q4.2.2 : ((u32 q5.1.1).toNat : Int) = q5.1.1 ∧ ((u32 q5.1.2.1).toNat : Int) = q5.1.2.1)
  have HC := hid hcs
  have H8 := hid h8
  clear hcs h8
  have HT0 : Hid (T = (if q5.2.2 = 0 then rx2 l a e else zcm, q5.2.1, q5.2.2)) := hid (by rw [hT2, hq5])
  have HRW : Hid (rx2 l a e = ptCm q5.1 { zcm with kd := 2, dv := k1, rq := k2, id := k3, bs := k4 }) := hid (by rw [hk1, hk2, hk3, hk4, hq1, hq2, hq3, hq4, hq5]; rfl)
  have EQ1 := hid eq1
  have HK1 := hid hk1
  have EQ2 := hid eq2
  have HK2 := hid hk2
  have EQ3 := hid eq3
  have HK3 := hid hk3
  have EQ4 := hid eq4
  have HK4 := hid hk4
  have EQ5 := hid eq5
  clear eq1 hq1 eq2 hq2 eq3 hq3 eq4 hq4 eq5 hq5 hk1 hk2 hk3 hk4 hq0 hT hT2 hk ha
  obtain ⟨zs, hzs⟩ : ∃ zs, zs = cmc zcm := ⟨_, rfl⟩
  have HZL : Hid (zs.length = 63) := hid (by rw [hzs]; rfl)
  have HZO : Hid (zs.toArray.all (·.oneCell') = true) := hid (by rw [hzs]; exact all_oneCell_toArray (cmc_one zcm))
  have HZS := hid hzs
  obtain ⟨x0, hx0⟩ : ∃ c, c = cmc { zcm with kd := 2 } := ⟨_, rfl⟩
  have HX0 := hid hx0
  have HX0L : Hid (x0.length = 63) := hid (by rw [hx0]; rfl)
  have HX0O : Hid (x0.toArray.all (·.oneCell') = true) := hid (by rw [hx0]; exact all_oneCell_toArray (cmc_one _))
  obtain ⟨W0, hW0⟩ : ∃ W0, W0 = w.alloc (.cells zA63 41) := ⟨_, rfl⟩
  have HW0 := hid hW0
  have HR0 : Hid (Rr W0 base g (l.drop a) e) := hid (by rw [hW0]; exact h.later (below_a1C w _))
  have HB0 : Hid (Blk W0 w.heap.size (cmc zcm)) := hid (by rw [hW0]; exact Blk.new w (cmc zcm) 41)
  have HG0 : Hid (w.grownBy W0 (some g)) := hid (by rw [hW0]; exact grown_onto (World.grownBy.refl w (some g)) (below_a1C w _))
  have HGL := hid hgl
  have HZ0 : Hid (W0.heap.size = w.heap.size + 1) := hid (by rw [hW0]; simp)
  clear hW0 hx0 hzs hgl h
  go_enter Tryz.func8, Tryz.ntmps8
  go_wp2_with fail
  rw [← HW0.out]
  clear HW0
  refine (HA.out W0 HR0.out).mono ?_
  rintro r w1 ⟨rfl, hr1, hG1⟩
  have HR1 := hid hr1
  have HB1 := hid (HB0.out.kept hG1 (by have := HGL.out; intro e; injection e with e; omega))
  have HG1 := hid (HG0.out.trans hG1)
  have HS1 : Hid (w.heap.size < w1.heap.size) := hid (by have := hG1.size; have := HZ0.out; omega)
  clear hr1 hG1 HA HR0 HB0 HG0 HZ0
  have TH : (w1.alloc (.cells zA63 41)).there w1.heap.size 0 63 := (Blk.new w1 (cmc zcm) 41).there 0 63 (by decide)
  obtain ⟨W2, hW2⟩ : ∃ W2, W2 = (w1.alloc (.cells zA63 41)).setCells w1.heap.size 0 x0 := ⟨_, rfl⟩
  have HW2 := hid hW2
  have hbA := below_a1C w1 (.cells zA63 41)
  have HR : Hid (RE w base g w1.heap.size l W2 { zcm with kd := 2 } q0.2.1 q0.2.2) := Lib.hid (by
    have hlt := HR1.out.block.2
    rw [hW2]
    refine ⟨(HR1.out.later hbA).off (grown_sets w1.heap.size x0 0 _) (by omega), ?_, (HB1.out.later hbA).setsOther (by have := HS1.out; omega) _ _, ⟨rfl, rfl, rfl, Nat.le_refl _, Nat.zero_le _, Sees.nil_⟩, Nat.zero_le _, fun ad e hn => (by cases e), grown_new (grown_onto HG1.out hbA) (grown_sets w1.heap.size x0 0 _) (Nat.le_of_lt HS1.out), HGL.out, HS1.out⟩
    rw [← HX0.out]
    exact (Blk.new w1 (cmc zcm) 41).wholeT (by rw [HX0L.out]; rfl))
  have k0 : W2.cell? ⟨w1.heap.size, 0, none⟩ = some (.int .i64 2) := HR.out.c.cell (j := 0) rfl
  clear hW2 hbA HR1 HB1 HG1 HS1
  go_wp2_with (first
    | (refine wpList_store_asC rfl 41 (.tmp 3) (.tmp 6) rfl w1.heap.size 0 x0.toArray rfl (by rw [HX0.out]; rfl) (by simpa [HX0L.out] using TH) (by simpa [HX0L.out] using info_cm) HX0O.out W2 HW2.out ?_)
    | fail)
  clear TH HW2 HX0 HX0L HX0O k0
  generalize w1.heap.size = gC at *
  refine (HR.out.num hm 5 q1 EQ1.out k1 HK1.out).mono ?_
  rintro r v1 ⟨rfl, HR1⟩
  have HR := hid HR1
  clear HR1
  have cz := HR.out.c.cell (cm_at HR.out.ok.e8 HR.out.ok.p8).2.1
  have fz := HR.out.c.frozen 30
  obtain ⟨V1, hW⟩ : ∃ W, W = v1.setCell ⟨gC, 30, none⟩ (.int .i64 k1) := ⟨_, rfl⟩
  have HW := hid hW
  have HR1 := HR.out.put { zcm with kd := 2, dv := k1 } ⟨HR.out.ok.e8, HR.out.ok.p8, HR.out.ok.len, HR.out.ok.cap, HR.out.ok.max, HR.out.ok.see⟩ HR.out.n31 (HR.out.low rfl rfl) 30 (.int .i64 k1) (cm_sets HR.out.ok.e8 HR.out.ok.p8 k1 0#32).2.1
  rw [← hW] at HR1
  have HR := hid HR1
  clear hW HR1
  have k0 : V1.cell? ⟨gC, 0, none⟩ = some (.int .i64 2) := HR.out.c.cell (cm_at HR.out.ok.e8 HR.out.ok.p8).1
  go_wp2_with (first
    | (refine wpList_store_i rfl 3 (.tmp 11) (.tmp 10) rfl gC 30 .i64 k1 rfl rfl _ info_i cz fz V1 HW.out ?_)
    | fail)
  clear HW k0 cz fz
  refine (HR.out.abv hm 1099511627776 q2 EQ2.out k2 HK2.out).mono ?_
  rintro r v2 ⟨rfl, HR1⟩
  have HR := hid HR1
  clear HR1
  have cz := HR.out.c.cell (cm_at HR.out.ok.e8 HR.out.ok.p8).2.2.1
  have fz := HR.out.c.frozen 31
  obtain ⟨V2, hW⟩ : ∃ W, W = v2.setCell ⟨gC, 31, none⟩ (.int .i64 k2) := ⟨_, rfl⟩
  have HW := hid hW
  have HR1 := HR.out.put { zcm with kd := 2, dv := k1, rq := k2 } ⟨HR.out.ok.e8, HR.out.ok.p8, HR.out.ok.len, HR.out.ok.cap, HR.out.ok.max, HR.out.ok.see⟩ HR.out.n31 (HR.out.low rfl rfl) 31 (.int .i64 k2) (cm_sets HR.out.ok.e8 HR.out.ok.p8 k2 0#32).2.2.1
  rw [← hW] at HR1
  have HR := hid HR1
  clear hW HR1
  have k0 : V2.cell? ⟨gC, 0, none⟩ = some (.int .i64 2) := HR.out.c.cell (cm_at HR.out.ok.e8 HR.out.ok.p8).1
  go_wp2_with (first
    | (refine wpList_store_i rfl 3 (.tmp 14) (.tmp 13) rfl gC 31 .i64 k2 rfl rfl _ info_i cz fz V2 HW.out ?_)
    | fail)
  clear HW k0 cz fz
  refine (HR.out.abv hm 1073741823 q3 EQ3.out k3 HK3.out).mono ?_
  rintro r v3 ⟨rfl, HR1⟩
  have HR := hid HR1
  clear HR1
  have cz := HR.out.c.cell (cm_at HR.out.ok.e8 HR.out.ok.p8).2.2.2.1
  have fz := HR.out.c.frozen 32
  obtain ⟨V3, hW⟩ : ∃ W, W = v3.setCell ⟨gC, 32, none⟩ (.int .i64 k3) := ⟨_, rfl⟩
  have HW := hid hW
  have HR1 := HR.out.put { zcm with kd := 2, dv := k1, rq := k2, id := k3 } ⟨HR.out.ok.e8, HR.out.ok.p8, HR.out.ok.len, HR.out.ok.cap, HR.out.ok.max, HR.out.ok.see⟩ HR.out.n31 (HR.out.low rfl rfl) 32 (.int .i64 k3) (cm_sets HR.out.ok.e8 HR.out.ok.p8 k3 0#32).2.2.2.1
  rw [← hW] at HR1
  have HR := hid HR1
  clear hW HR1
  have k0 : V3.cell? ⟨gC, 0, none⟩ = some (.int .i64 2) := HR.out.c.cell (cm_at HR.out.ok.e8 HR.out.ok.p8).1
  go_wp2_with (first
    | (refine wpList_store_i rfl 3 (.tmp 30) (.tmp 29) rfl gC 32 .i64 k3 rfl rfl _ info_i cz fz V3 HW.out ?_)
    | fail)
  clear HW k0 cz fz
  refine (HR.out.abv hm 1099511627776 q4 EQ4.out k4 HK4.out).mono ?_
  rintro r v4 ⟨rfl, HR1⟩
  have HR := hid HR1
  clear HR1
  have cz := HR.out.c.cell (cm_at HR.out.ok.e8 HR.out.ok.p8).2.2.2.2.1
  have fz := HR.out.c.frozen 33
  obtain ⟨V4, hW⟩ : ∃ W, W = v4.setCell ⟨gC, 33, none⟩ (.int .i64 k4) := ⟨_, rfl⟩
  have HW := hid hW
  have HR1 := HR.out.put { zcm with kd := 2, dv := k1, rq := k2, id := k3, bs := k4 } ⟨HR.out.ok.e8, HR.out.ok.p8, HR.out.ok.len, HR.out.ok.cap, HR.out.ok.max, HR.out.ok.see⟩ HR.out.n31 (HR.out.low rfl rfl) 33 (.int .i64 k4) (cm_sets HR.out.ok.e8 HR.out.ok.p8 k4 0#32).2.2.2.2.1
  rw [← hW] at HR1
  have HR := hid HR1
  clear hW HR1
  have k0 : V4.cell? ⟨gC, 0, none⟩ = some (.int .i64 2) := HR.out.c.cell (cm_at HR.out.ok.e8 HR.out.ok.p8).1
  go_wp2_with (first
    | (refine wpList_store_i rfl 3 (.tmp 33) (.tmp 32) rfl gC 33 .i64 k4 rfl rfl _ info_i cz fz V4 HW.out ?_)
    | fail)
  clear HW k0 cz fz
  refine (HR.out.patch at4 hm q5 EQ5.out cs HC.out).mono ?_
  rintro r v5 ⟨rfl, HR1⟩
  have HR := hid HR1
  clear HR1
  have th := HR.out.c.there 35 26 (by rw [cmc_len HR.out.ok.e8 HR.out.ok.p8]; omega)
  obtain ⟨V5, hW⟩ : ∃ W, W = v5.setCells gC 35 cs.toList := ⟨_, rfl⟩
  have HW := hid hW
  have HR1 := HR.out.puts (ptCm q5.1 { zcm with kd := 2, dv := k1, rq := k2, id := k3, bs := k4 }) ⟨HR.out.ok.e8, H8.out, HR.out.ok.len, HR.out.ok.cap, HR.out.ok.max, HR.out.ok.see⟩ HR.out.n31 (HR.out.low rfl rfl) 35 cs.toList (by rw [Array.length_toList, HCS.out]; omega) (by rw [HC.out]; exact cm_putP HR.out.ok.e8 HR.out.ok.p8 q5.1 H8.out HU.out.1 HU.out.2)
  rw [← hW] at HR1
  have HR := hid HR1
  clear hW HR1
  have k0 : V5.cell? ⟨gC, 0, none⟩ = some (.int .i64 2) := HR.out.c.cell (cm_at HR.out.ok.e8 HR.out.ok.p8).1
  obtain ⟨X, hX⟩ : ∃ X : Cm, X = (ptCm q5.1 { zcm with kd := 2, dv := k1, rq := k2, id := k3, bs := k4 }) := ⟨_, rfl⟩
  rw [← hX] at HR
  have HXR : Hid (cab X = rx2 l a e) := hid (by rw [hX, HRW.out]; rfl)
  clear hX
  have kE : V5.cell? ⟨g, 1, none⟩ = some (.int .i64 q5.2.2) := HR.out.rd.facts.2.1
  obtain ⟨e5, he5⟩ : ∃ z, z = q5.2.2 := ⟨_, rfl⟩
  rw [← he5] at kE
  have HE5 := hid he5
  clear he5
  by_cases he : e5 = 0
  · have ke : (e5 != 0) = false := by simpa using he
    have RB := HR.out.z
    obtain ⟨xc, hxc⟩ : ∃ c, c = cmc X := ⟨_, rfl⟩
    have HXL : Hid (xc.length = 63) := hid (by rw [hxc]; exact cmc_len HR.out.ok.e8 HR.out.ok.p8)
    have HXO : Hid (xc.toArray.all (·.oneCell') = true) := hid (by rw [hxc]; exact all_oneCell_toArray (cmc_one X))
    have HXC := hid hxc
    have RG := HR.out.c.range 0 xc (by rw [← hxc, List.drop_zero, List.take_length])
    have T8 := RB.there 0 63 (by decide)
    have FIN := RB.wholeT (ds := xc) HXL.out
    have O8 := HXO.out
    have hfr : farCm w.heap.size X := HR.out.fl.far (Nat.le_of_lt HR.out.hC)
    have okR : okCm (V5.setCells w.heap.size 0 xc) X := HR.out.ok.kept2 hfr hfr (Grown2.two (grown_sets w.heap.size xc 0 V5))
    have lowR : lowCm w.heap.size X := fun ad e hn => by have := HR.out.fl ad e hn; have := HR.out.hC; omega
    have R9 := HR.out.rd.off (grown_sets w.heap.size xc 0 V5) (by have := HGL.out; omega)
    have G9 := grown_new HR.out.gr (grown_sets w.heap.size xc 0 V5) (Nat.le_refl _)
    have HT := HT0.out
    rw [if_pos (by rw [← HE5.out]; exact he)] at HT
    have HT := hid HT
    clear hxc RB hfr he
    go_wp2_with (first
      | (refine wpList_store_asC rfl 36 (.tmp 36) (.tmp 35) rfl gC 35 cs rfl rfl (by rw [HCS.out]; exact th) (by rw [HCS.out]; exact info_patch) HON.out V5 HW.out ?_)
      | (refine wpList_load_mid rfl 41 (.tmp 3) rfl gC 0 rfl xc _ RG hu rfl (by rw [HXL.out]; exact info_cm) ?_)
      | (refine wpList_store_mid rfl 41 (.tmp 2) (.tmp 53) rfl w.heap.size 0 xc.toArray rfl rfl (by simpa [HXL.out] using T8) (by simpa [HXL.out] using info_cm) O8 ?_)
      | fail)
    exact bodyPost_ret (v := .agg xc.toArray) (tok_results (q := 2) rfl _ _ w.heap.size xc _ rfl FIN hu rfl (by rw [HXL.out]; exact info_cm)) rfl ⟨⟨X, by rw [HXC.out], okR, by rw [HT.out]; exact HXR.out, HR.out.n31, lowR⟩, by rw [HT.out]; exact R9, G9⟩
  · have ke : (e5 != 0) = true := by simpa using he
    have RB := HR.out.z
    have T8 := RB.there 0 63 (by decide)
    have FIN := RB.wholeT (ds := zs) HZL.out
    have okR := zcm_ok (V5.setCells w.heap.size 0 zs)
    have lowR : lowCm w.heap.size zcm := fun ad e hn => by cases e
    have R9 := HR.out.rd.off (grown_sets w.heap.size zs 0 V5) (by have := HGL.out; omega)
    have G9 := grown_new HR.out.gr (grown_sets w.heap.size zs 0 V5) (Nat.le_refl _)
    have HT := HT0.out
    rw [if_neg (by rw [← HE5.out]; exact he)] at HT
    have HT := hid HT
    have O8 := HZO.out
    clear RB he
    go_wp2_with (first
      | (refine wpList_store_asC rfl 36 (.tmp 36) (.tmp 35) rfl gC 35 cs rfl rfl (by rw [HCS.out]; exact th) (by rw [HCS.out]; exact info_patch) HON.out V5 HW.out ?_)
      | (refine wpList_store_mid rfl 41 (.tmp 2) (.tmp 52) rfl w.heap.size 0 zs.toArray rfl (by rw [HZS.out]; rfl) (by simpa [HZL.out] using T8) (by simpa [HZL.out] using info_cm) O8 ?_)
      | fail)
    exact bodyPost_ret (v := .agg zs.toArray) (tok_results (q := 2) rfl _ _ w.heap.size zs _ rfl FIN hu rfl (by rw [HZL.out]; exact info_cm)) rfl ⟨⟨zcm, by rw [HZS.out], okR, by rw [HT.out]; rfl, Nat.zero_le _, lowR⟩, by rw [HT.out]; exact R9, G9⟩
theorem rcread_3 (base g : Nat) (l : List UInt8) (a : Nat) (e : Int) (w : World) (h : Rr w base g (l.drop a) e) (ha : a ≤ l.length) (hm : l.length ≤ 4000) (hk : (roA l a e).1 = 3) :
    Calls Tryz.prog 8 #[.pointer (some ⟨g, 0, none⟩)] w (CmReadR w base g l (cmOut l a e)) := by
  have hu := Tryz.underlying41
  have hgl := h.block.2
  have HA := Lib.hid (fun (wz : World) (hz : Rr wz base g (l.drop a) e) => (rr_abvE base g l a e 5 wz hz hm).mono (R' := fun r w' => r = .returned (.int .i64 3) ∧ Rr w' base g (l.drop (roA l a e).2.1) (roA l a e).2.2 ∧ wz.grownBy w' (some g)) (by
    rintro r w' ⟨rfl, hr, hG⟩
    exact ⟨by rw [show (abvOut l a e 5).1 = 3 from hk]; rfl, hr, hG⟩))
  obtain ⟨T, hT⟩ : ∃ T, T = cmOut l a e := ⟨_, rfl⟩
  have hT2 : T = (if (roRaw l a e).2.2 = 0 then (roRaw l a e).1 else zcm, (roRaw l a e).2.1, (roRaw l a e).2.2) := hT
  rw [← hT]
  have at0 : (roA l a e).2.1 ≤ l.length := abvOut_at _ _ _ _ ha
  rw [ro_3 hk] at hT2
  simp only at hT2
  obtain ⟨q0, hq0⟩ : ∃ q, q = roA l a e := ⟨_, rfl⟩
  rw [← hq0] at HA at0
  obtain ⟨q1, hq1⟩ : ∃ q, q = roD l a e := ⟨_, rfl⟩
  have eq1 : q1 = numOut l q0.2.1 q0.2.2 5 := by rw [hq1, hq0]; rfl
  have at1 : q1.2.1 ≤ l.length := by rw [eq1]; exact numOut_at _ _ _ _ at0
  obtain ⟨k1, hk1⟩ : ∃ k : Int, k = (q1.1 : Int) := ⟨_, rfl⟩
  obtain ⟨q2, hq2⟩ : ∃ q, q = roR l a e := ⟨_, rfl⟩
  have eq2 : q2 = abvOut l q1.2.1 q1.2.2 1099511627776 := by rw [hq2, hq1]; rfl
  have at2 : q2.2.1 ≤ l.length := by rw [eq2]; exact abvOut_at _ _ _ _ at1
  obtain ⟨k2, hk2⟩ : ∃ k : Int, k = (q2.1 : Int) := ⟨_, rfl⟩
  obtain ⟨q3, hq3⟩ : ∃ q, q = roF l a e := ⟨_, rfl⟩
  have eq3 : q3 = filtOut l q2.2.1 q2.2.2 := by rw [hq3, hq2]; rfl
  have at3 : q3.2.1 ≤ l.length := by rw [eq3]; exact filt_at at2
  obtain ⟨nf, hnf⟩ : ∃ n, n = q3.1.length := ⟨_, rfl⟩
  have HNF := hid hnf
  have HN31 : Hid (nf ≤ 31) := hid (by rw [hnf, eq3]; exact filt31C _ _ _)
  clear hnf
  obtain ⟨q4, hq4⟩ : ∃ q, q = roM l a e := ⟨_, rfl⟩
  have eq4 : q4 = numOut l q3.2.1 q3.2.2 511 := by rw [hq4, hq3]; rfl
  have at4 : q4.2.1 ≤ l.length := by rw [eq4]; exact numOut_at _ _ _ _ at3
  obtain ⟨k4, hk4⟩ : ∃ k : Int, k = (q4.1 : Int) := ⟨_, rfl⟩
  have hkle : k4 ≤ 511 := by rw [hk4, eq4]; exact numOut_le _ _ _ _ (by omega)
  have hkge : 0 ≤ k4 := by rw [hk4]; omega
  have hcv : IntKind.u32.wrap k4 = k4 := by
    simp only [IntKind.wrap, IntKind.signed, IntKind.bits, Bool.false_and, Bool.false_eq_true, if_false]
    omega
  obtain ⟨ms, hms⟩ : ∃ m, m = BitVec.ofNat 32 q4.1 := ⟨_, rfl⟩
  have HMS : Hid ((ms.toNat : Int) = k4) := hid (by rw [hms, hk4, BitVec.toNat_ofNat, Nat.mod_eq_of_lt (by omega)])
  have HMB := hid hms
  clear hms
  have HT0 : Hid (T = (if q4.2.2 = 0 then rx3 l a e else zcm, q4.2.1, q4.2.2)) := hid (by rw [hT2, hq4])
  have HRW : Hid (rx3 l a e = { zcm with kd := 3, dv := k1, rq := k2, f := q3.1, ms := ms }) := hid (by rw [hk1, hk2, HMB.out, hq1, hq2, hq3, hq4]; rfl)
  have EQ1 := hid eq1
  have HK1 := hid hk1
  have EQ2 := hid eq2
  have HK2 := hid hk2
  have EQ3 := hid eq3
  have EQ4 := hid eq4
  have HK4 := hid hk4
  clear eq1 hq1 eq2 hq2 eq3 hq3 eq4 hq4 hk1 hk2 hk4 hq0 hT hT2 hk ha
  obtain ⟨zs, hzs⟩ : ∃ zs, zs = cmc zcm := ⟨_, rfl⟩
  have HZL : Hid (zs.length = 63) := hid (by rw [hzs]; rfl)
  have HZO : Hid (zs.toArray.all (·.oneCell') = true) := hid (by rw [hzs]; exact all_oneCell_toArray (cmc_one zcm))
  have HZS := hid hzs
  obtain ⟨x0, hx0⟩ : ∃ c, c = cmc { zcm with kd := 3 } := ⟨_, rfl⟩
  have HX0 := hid hx0
  have HX0L : Hid (x0.length = 63) := hid (by rw [hx0]; rfl)
  have HX0O : Hid (x0.toArray.all (·.oneCell') = true) := hid (by rw [hx0]; exact all_oneCell_toArray (cmc_one _))
  obtain ⟨W0, hW0⟩ : ∃ W0, W0 = w.alloc (.cells zA63 41) := ⟨_, rfl⟩
  have HW0 := hid hW0
  have HR0 : Hid (Rr W0 base g (l.drop a) e) := hid (by rw [hW0]; exact h.later (below_a1C w _))
  have HB0 : Hid (Blk W0 w.heap.size (cmc zcm)) := hid (by rw [hW0]; exact Blk.new w (cmc zcm) 41)
  have HG0 : Hid (w.grownBy W0 (some g)) := hid (by rw [hW0]; exact grown_onto (World.grownBy.refl w (some g)) (below_a1C w _))
  have HGL := hid hgl
  have HZ0 : Hid (W0.heap.size = w.heap.size + 1) := hid (by rw [hW0]; simp)
  clear hW0 hx0 hzs hgl h
  go_enter Tryz.func8, Tryz.ntmps8
  go_wp2_with fail
  rw [← HW0.out]
  clear HW0
  refine (HA.out W0 HR0.out).mono ?_
  rintro r w1 ⟨rfl, hr1, hG1⟩
  have HR1 := hid hr1
  have HB1 := hid (HB0.out.kept hG1 (by have := HGL.out; intro e; injection e with e; omega))
  have HG1 := hid (HG0.out.trans hG1)
  have HS1 : Hid (w.heap.size < w1.heap.size) := hid (by have := hG1.size; have := HZ0.out; omega)
  clear hr1 hG1 HA HR0 HB0 HG0 HZ0
  have TH : (w1.alloc (.cells zA63 41)).there w1.heap.size 0 63 := (Blk.new w1 (cmc zcm) 41).there 0 63 (by decide)
  obtain ⟨W2, hW2⟩ : ∃ W2, W2 = (w1.alloc (.cells zA63 41)).setCells w1.heap.size 0 x0 := ⟨_, rfl⟩
  have HW2 := hid hW2
  have hbA := below_a1C w1 (.cells zA63 41)
  have HR : Hid (RE w base g w1.heap.size l W2 { zcm with kd := 3 } q0.2.1 q0.2.2) := Lib.hid (by
    have hlt := HR1.out.block.2
    rw [hW2]
    refine ⟨(HR1.out.later hbA).off (grown_sets w1.heap.size x0 0 _) (by omega), ?_, (HB1.out.later hbA).setsOther (by have := HS1.out; omega) _ _, ⟨rfl, rfl, rfl, Nat.le_refl _, Nat.zero_le _, Sees.nil_⟩, Nat.zero_le _, fun ad e hn => (by cases e), grown_new (grown_onto HG1.out hbA) (grown_sets w1.heap.size x0 0 _) (Nat.le_of_lt HS1.out), HGL.out, HS1.out⟩
    rw [← HX0.out]
    exact (Blk.new w1 (cmc zcm) 41).wholeT (by rw [HX0L.out]; rfl))
  have k0 : W2.cell? ⟨w1.heap.size, 0, none⟩ = some (.int .i64 3) := HR.out.c.cell (j := 0) rfl
  clear hW2 hbA HR1 HB1 HG1 HS1
  go_wp2_with (first
    | (refine wpList_store_asC rfl 41 (.tmp 3) (.tmp 6) rfl w1.heap.size 0 x0.toArray rfl (by rw [HX0.out]; rfl) (by simpa [HX0L.out] using TH) (by simpa [HX0L.out] using info_cm) HX0O.out W2 HW2.out ?_)
    | fail)
  clear TH HW2 HX0 HX0L HX0O k0
  generalize w1.heap.size = gC at *
  refine (HR.out.num hm 5 q1 EQ1.out k1 HK1.out).mono ?_
  rintro r v1 ⟨rfl, HR1⟩
  have HR := hid HR1
  clear HR1
  have cz := HR.out.c.cell (cm_at HR.out.ok.e8 HR.out.ok.p8).2.1
  have fz := HR.out.c.frozen 30
  obtain ⟨V1, hW⟩ : ∃ W, W = v1.setCell ⟨gC, 30, none⟩ (.int .i64 k1) := ⟨_, rfl⟩
  have HW := hid hW
  have HR1 := HR.out.put { zcm with kd := 3, dv := k1 } ⟨HR.out.ok.e8, HR.out.ok.p8, HR.out.ok.len, HR.out.ok.cap, HR.out.ok.max, HR.out.ok.see⟩ HR.out.n31 (HR.out.low rfl rfl) 30 (.int .i64 k1) (cm_sets HR.out.ok.e8 HR.out.ok.p8 k1 0#32).2.1
  rw [← hW] at HR1
  have HR := hid HR1
  clear hW HR1
  have k0 : V1.cell? ⟨gC, 0, none⟩ = some (.int .i64 3) := HR.out.c.cell (cm_at HR.out.ok.e8 HR.out.ok.p8).1
  go_wp2_with (first
    | (refine wpList_store_i rfl 3 (.tmp 11) (.tmp 10) rfl gC 30 .i64 k1 rfl rfl _ info_i cz fz V1 HW.out ?_)
    | fail)
  clear HW k0 cz fz
  refine (HR.out.abv hm 1099511627776 q2 EQ2.out k2 HK2.out).mono ?_
  rintro r v2 ⟨rfl, HR1⟩
  have HR := hid HR1
  clear HR1
  have cz := HR.out.c.cell (cm_at HR.out.ok.e8 HR.out.ok.p8).2.2.1
  have fz := HR.out.c.frozen 31
  obtain ⟨V2, hW⟩ : ∃ W, W = v2.setCell ⟨gC, 31, none⟩ (.int .i64 k2) := ⟨_, rfl⟩
  have HW := hid hW
  have HR1 := HR.out.put { zcm with kd := 3, dv := k1, rq := k2 } ⟨HR.out.ok.e8, HR.out.ok.p8, HR.out.ok.len, HR.out.ok.cap, HR.out.ok.max, HR.out.ok.see⟩ HR.out.n31 (HR.out.low rfl rfl) 31 (.int .i64 k2) (cm_sets HR.out.ok.e8 HR.out.ok.p8 k2 0#32).2.2.1
  rw [← hW] at HR1
  have HR := hid HR1
  clear hW HR1
  have k0 : V2.cell? ⟨gC, 0, none⟩ = some (.int .i64 3) := HR.out.c.cell (cm_at HR.out.ok.e8 HR.out.ok.p8).1
  go_wp2_with (first
    | (refine wpList_store_i rfl 3 (.tmp 14) (.tmp 13) rfl gC 31 .i64 k2 rfl rfl _ info_i cz fz V2 HW.out ?_)
    | fail)
  clear HW k0 cz fz
  refine (HR.out.filt at2 hm q3 EQ3.out nf HNF.out).mono ?_
  rintro r v3 ⟨AF, cF, rfl, HOK, HF1, HR1⟩
  have HOK := hid HOK
  have HF1 := hid HF1
  have HR := hid HR1
  clear HR1
  have cz := HR.out.c.cell (cm_at HR.out.ok.e8 HR.out.ok.p8).2.2.2.2.2.2.1
  have fz := HR.out.c.frozen 61
  obtain ⟨V3, hW⟩ : ∃ W, W = v3.setCell ⟨gC, 61, none⟩ (.slice AF nf cF) := ⟨_, rfl⟩
  have HW := hid hW
  have HR1 := HR.out.put { zcm with kd := 3, dv := k1, rq := k2, A := AF, n := nf, c := cF, f := q3.1 } HOK.out HN31.out HF1.out 61 (.slice AF nf cF) (cm_setF HR.out.ok.e8 HR.out.ok.p8 AF nf cF q3.1)
  rw [← hW] at HR1
  have HR := hid HR1
  clear hW HR1 HOK HF1
  have k0 : V3.cell? ⟨gC, 0, none⟩ = some (.int .i64 3) := HR.out.c.cell (cm_at HR.out.ok.e8 HR.out.ok.p8).1
  go_wp2_with (first
    | (refine wpList_store_s rfl 39 (.tmp 42) (.tmp 41) rfl gC 61 AF nf cF rfl rfl _ info_f cz fz V3 HW.out ?_)
    | fail)
  clear HW k0 cz fz
  refine (HR.out.num hm 511 q4 EQ4.out k4 HK4.out).mono ?_
  rintro r v4 ⟨rfl, HR1⟩
  have HR := hid HR1
  clear HR1
  have cz := HR.out.c.cell (cm_at HR.out.ok.e8 HR.out.ok.p8).2.2.2.2.2.2.2
  have fz := HR.out.c.frozen 62
  obtain ⟨V4, hW⟩ : ∃ W, W = v4.setCell ⟨gC, 62, none⟩ (.int .u32 k4) := ⟨_, rfl⟩
  have HW := hid hW
  have HR1 := HR.out.put { zcm with kd := 3, dv := k1, rq := k2, A := AF, n := nf, c := cF, f := q3.1, ms := ms } ⟨HR.out.ok.e8, HR.out.ok.p8, HR.out.ok.len, HR.out.ok.cap, HR.out.ok.max, HR.out.ok.see⟩ HR.out.n31 (HR.out.low rfl rfl) 62 (.int .u32 k4) (by rw [← HMS.out]; exact (cm_sets HR.out.ok.e8 HR.out.ok.p8 0 ms).2.2.2.2.2.2.2)
  rw [← hW] at HR1
  have HR := hid HR1
  clear hW HR1
  have k0 : V4.cell? ⟨gC, 0, none⟩ = some (.int .i64 3) := HR.out.c.cell (cm_at HR.out.ok.e8 HR.out.ok.p8).1
  obtain ⟨X, hX⟩ : ∃ X : Cm, X = { zcm with kd := 3, dv := k1, rq := k2, A := AF, n := nf, c := cF, f := q3.1, ms := ms } := ⟨_, rfl⟩
  rw [← hX] at HR
  have HXR : Hid (cab X = rx3 l a e) := hid (by rw [hX, HRW.out]; rfl)
  clear hX
  have kE : V4.cell? ⟨g, 1, none⟩ = some (.int .i64 q4.2.2) := HR.out.rd.facts.2.1
  obtain ⟨e5, he5⟩ : ∃ z, z = q4.2.2 := ⟨_, rfl⟩
  rw [← he5] at kE
  have HE5 := hid he5
  clear he5
  by_cases he : e5 = 0
  · have ke : (e5 != 0) = false := by simpa using he
    have RB := HR.out.z
    obtain ⟨xc, hxc⟩ : ∃ c, c = cmc X := ⟨_, rfl⟩
    have HXL : Hid (xc.length = 63) := hid (by rw [hxc]; exact cmc_len HR.out.ok.e8 HR.out.ok.p8)
    have HXO : Hid (xc.toArray.all (·.oneCell') = true) := hid (by rw [hxc]; exact all_oneCell_toArray (cmc_one X))
    have HXC := hid hxc
    have RG := HR.out.c.range 0 xc (by rw [← hxc, List.drop_zero, List.take_length])
    have T8 := RB.there 0 63 (by decide)
    have FIN := RB.wholeT (ds := xc) HXL.out
    have O8 := HXO.out
    have hfr : farCm w.heap.size X := HR.out.fl.far (Nat.le_of_lt HR.out.hC)
    have okR : okCm (V4.setCells w.heap.size 0 xc) X := HR.out.ok.kept2 hfr hfr (Grown2.two (grown_sets w.heap.size xc 0 V4))
    have lowR : lowCm w.heap.size X := fun ad e hn => by have := HR.out.fl ad e hn; have := HR.out.hC; omega
    have R9 := HR.out.rd.off (grown_sets w.heap.size xc 0 V4) (by have := HGL.out; omega)
    have G9 := grown_new HR.out.gr (grown_sets w.heap.size xc 0 V4) (Nat.le_refl _)
    have HT := HT0.out
    rw [if_pos (by rw [← HE5.out]; exact he)] at HT
    have HT := hid HT
    clear hxc RB hfr he
    go_wp2_with (first
      | (refine wpList_store_i rfl 31 (.tmp 46) (.tmp 45) rfl gC 62 .u32 k4 rfl rfl _ info_m cz fz V4 HW.out ?_)
      | (refine wpList_load_mid rfl 41 (.tmp 3) rfl gC 0 rfl xc _ RG hu rfl (by rw [HXL.out]; exact info_cm) ?_)
      | (refine wpList_store_mid rfl 41 (.tmp 2) (.tmp 53) rfl w.heap.size 0 xc.toArray rfl rfl (by simpa [HXL.out] using T8) (by simpa [HXL.out] using info_cm) O8 ?_)
      | fail)
    exact bodyPost_ret (v := .agg xc.toArray) (tok_results (q := 2) rfl _ _ w.heap.size xc _ rfl FIN hu rfl (by rw [HXL.out]; exact info_cm)) rfl ⟨⟨X, by rw [HXC.out], okR, by rw [HT.out]; exact HXR.out, HR.out.n31, lowR⟩, by rw [HT.out]; exact R9, G9⟩
  · have ke : (e5 != 0) = true := by simpa using he
    have RB := HR.out.z
    have T8 := RB.there 0 63 (by decide)
    have FIN := RB.wholeT (ds := zs) HZL.out
    have okR := zcm_ok (V4.setCells w.heap.size 0 zs)
    have lowR : lowCm w.heap.size zcm := fun ad e hn => by cases e
    have R9 := HR.out.rd.off (grown_sets w.heap.size zs 0 V4) (by have := HGL.out; omega)
    have G9 := grown_new HR.out.gr (grown_sets w.heap.size zs 0 V4) (Nat.le_refl _)
    have HT := HT0.out
    rw [if_neg (by rw [← HE5.out]; exact he)] at HT
    have HT := hid HT
    have O8 := HZO.out
    clear RB he
    go_wp2_with (first
      | (refine wpList_store_i rfl 31 (.tmp 46) (.tmp 45) rfl gC 62 .u32 k4 rfl rfl _ info_m cz fz V4 HW.out ?_)
      | (refine wpList_store_mid rfl 41 (.tmp 2) (.tmp 52) rfl w.heap.size 0 zs.toArray rfl (by rw [HZS.out]; rfl) (by simpa [HZL.out] using T8) (by simpa [HZL.out] using info_cm) O8 ?_)
      | fail)
    exact bodyPost_ret (v := .agg zs.toArray) (tok_results (q := 2) rfl _ _ w.heap.size zs _ rfl FIN hu rfl (by rw [HZL.out]; exact info_cm)) rfl ⟨⟨zcm, by rw [HZS.out], okR, by rw [HT.out]; rfl, Nat.zero_le _, lowR⟩, by rw [HT.out]; exact R9, G9⟩
theorem rcread_4 (base g : Nat) (l : List UInt8) (a : Nat) (e : Int) (w : World) (h : Rr w base g (l.drop a) e) (ha : a ≤ l.length) (hm : l.length ≤ 4000) (hk : (roA l a e).1 = 4) :
    Calls Tryz.prog 8 #[.pointer (some ⟨g, 0, none⟩)] w (CmReadR w base g l (cmOut l a e)) := by
  have hu := Tryz.underlying41
  have hgl := h.block.2
  have HA := Lib.hid (fun (wz : World) (hz : Rr wz base g (l.drop a) e) => (rr_abvE base g l a e 5 wz hz hm).mono (R' := fun r w' => r = .returned (.int .i64 4) ∧ Rr w' base g (l.drop (roA l a e).2.1) (roA l a e).2.2 ∧ wz.grownBy w' (some g)) (by
    rintro r w' ⟨rfl, hr, hG⟩
    exact ⟨by rw [show (abvOut l a e 5).1 = 4 from hk]; rfl, hr, hG⟩))
  obtain ⟨T, hT⟩ : ∃ T, T = cmOut l a e := ⟨_, rfl⟩
  have hT2 : T = (if (roRaw l a e).2.2 = 0 then (roRaw l a e).1 else zcm, (roRaw l a e).2.1, (roRaw l a e).2.2) := hT
  rw [← hT]
  have at0 : (roA l a e).2.1 ≤ l.length := abvOut_at _ _ _ _ ha
  rw [ro_4 hk] at hT2
  simp only at hT2
  obtain ⟨q0, hq0⟩ : ∃ q, q = roA l a e := ⟨_, rfl⟩
  rw [← hq0] at HA at0
  obtain ⟨q1, hq1⟩ : ∃ q, q = roD l a e := ⟨_, rfl⟩
  have eq1 : q1 = numOut l q0.2.1 q0.2.2 5 := by rw [hq1, hq0]; rfl
  have at1 : q1.2.1 ≤ l.length := by rw [eq1]; exact numOut_at _ _ _ _ at0
  obtain ⟨k1, hk1⟩ : ∃ k : Int, k = (q1.1 : Int) := ⟨_, rfl⟩
  obtain ⟨q2, hq2⟩ : ∃ q, q = roR l a e := ⟨_, rfl⟩
  have eq2 : q2 = abvOut l q1.2.1 q1.2.2 1099511627776 := by rw [hq2, hq1]; rfl
  have at2 : q2.2.1 ≤ l.length := by rw [eq2]; exact abvOut_at _ _ _ _ at1
  obtain ⟨k2, hk2⟩ : ∃ k : Int, k = (q2.1 : Int) := ⟨_, rfl⟩
  have HT0 : Hid (T = (if q2.2.2 = 0 then rxq l a e 4 else zcm, q2.2.1, q2.2.2)) := hid (by rw [hT2, hq2])
  have HRW : Hid (rxq l a e 4 = { zcm with kd := 4, dv := k1, rq := k2 }) := hid (by rw [hk1, hk2, hq1, hq2]; rfl)
  have EQ1 := hid eq1
  have HK1 := hid hk1
  have EQ2 := hid eq2
  have HK2 := hid hk2
  clear eq1 hq1 eq2 hq2 hk1 hk2 hq0 hT hT2 hk ha
  obtain ⟨zs, hzs⟩ : ∃ zs, zs = cmc zcm := ⟨_, rfl⟩
  have HZL : Hid (zs.length = 63) := hid (by rw [hzs]; rfl)
  have HZO : Hid (zs.toArray.all (·.oneCell') = true) := hid (by rw [hzs]; exact all_oneCell_toArray (cmc_one zcm))
  have HZS := hid hzs
  obtain ⟨x0, hx0⟩ : ∃ c, c = cmc { zcm with kd := 4 } := ⟨_, rfl⟩
  have HX0 := hid hx0
  have HX0L : Hid (x0.length = 63) := hid (by rw [hx0]; rfl)
  have HX0O : Hid (x0.toArray.all (·.oneCell') = true) := hid (by rw [hx0]; exact all_oneCell_toArray (cmc_one _))
  obtain ⟨W0, hW0⟩ : ∃ W0, W0 = w.alloc (.cells zA63 41) := ⟨_, rfl⟩
  have HW0 := hid hW0
  have HR0 : Hid (Rr W0 base g (l.drop a) e) := hid (by rw [hW0]; exact h.later (below_a1C w _))
  have HB0 : Hid (Blk W0 w.heap.size (cmc zcm)) := hid (by rw [hW0]; exact Blk.new w (cmc zcm) 41)
  have HG0 : Hid (w.grownBy W0 (some g)) := hid (by rw [hW0]; exact grown_onto (World.grownBy.refl w (some g)) (below_a1C w _))
  have HGL := hid hgl
  have HZ0 : Hid (W0.heap.size = w.heap.size + 1) := hid (by rw [hW0]; simp)
  clear hW0 hx0 hzs hgl h
  go_enter Tryz.func8, Tryz.ntmps8
  go_wp2_with fail
  rw [← HW0.out]
  clear HW0
  refine (HA.out W0 HR0.out).mono ?_
  rintro r w1 ⟨rfl, hr1, hG1⟩
  have HR1 := hid hr1
  have HB1 := hid (HB0.out.kept hG1 (by have := HGL.out; intro e; injection e with e; omega))
  have HG1 := hid (HG0.out.trans hG1)
  have HS1 : Hid (w.heap.size < w1.heap.size) := hid (by have := hG1.size; have := HZ0.out; omega)
  clear hr1 hG1 HA HR0 HB0 HG0 HZ0
  have TH : (w1.alloc (.cells zA63 41)).there w1.heap.size 0 63 := (Blk.new w1 (cmc zcm) 41).there 0 63 (by decide)
  obtain ⟨W2, hW2⟩ : ∃ W2, W2 = (w1.alloc (.cells zA63 41)).setCells w1.heap.size 0 x0 := ⟨_, rfl⟩
  have HW2 := hid hW2
  have hbA := below_a1C w1 (.cells zA63 41)
  have HR : Hid (RE w base g w1.heap.size l W2 { zcm with kd := 4 } q0.2.1 q0.2.2) := Lib.hid (by
    have hlt := HR1.out.block.2
    rw [hW2]
    refine ⟨(HR1.out.later hbA).off (grown_sets w1.heap.size x0 0 _) (by omega), ?_, (HB1.out.later hbA).setsOther (by have := HS1.out; omega) _ _, ⟨rfl, rfl, rfl, Nat.le_refl _, Nat.zero_le _, Sees.nil_⟩, Nat.zero_le _, fun ad e hn => (by cases e), grown_new (grown_onto HG1.out hbA) (grown_sets w1.heap.size x0 0 _) (Nat.le_of_lt HS1.out), HGL.out, HS1.out⟩
    rw [← HX0.out]
    exact (Blk.new w1 (cmc zcm) 41).wholeT (by rw [HX0L.out]; rfl))
  have k0 : W2.cell? ⟨w1.heap.size, 0, none⟩ = some (.int .i64 4) := HR.out.c.cell (j := 0) rfl
  clear hW2 hbA HR1 HB1 HG1 HS1
  go_wp2_with (first
    | (refine wpList_store_asC rfl 41 (.tmp 3) (.tmp 6) rfl w1.heap.size 0 x0.toArray rfl (by rw [HX0.out]; rfl) (by simpa [HX0L.out] using TH) (by simpa [HX0L.out] using info_cm) HX0O.out W2 HW2.out ?_)
    | fail)
  clear TH HW2 HX0 HX0L HX0O k0
  generalize w1.heap.size = gC at *
  refine (HR.out.num hm 5 q1 EQ1.out k1 HK1.out).mono ?_
  rintro r v1 ⟨rfl, HR1⟩
  have HR := hid HR1
  clear HR1
  have cz := HR.out.c.cell (cm_at HR.out.ok.e8 HR.out.ok.p8).2.1
  have fz := HR.out.c.frozen 30
  obtain ⟨V1, hW⟩ : ∃ W, W = v1.setCell ⟨gC, 30, none⟩ (.int .i64 k1) := ⟨_, rfl⟩
  have HW := hid hW
  have HR1 := HR.out.put { zcm with kd := 4, dv := k1 } ⟨HR.out.ok.e8, HR.out.ok.p8, HR.out.ok.len, HR.out.ok.cap, HR.out.ok.max, HR.out.ok.see⟩ HR.out.n31 (HR.out.low rfl rfl) 30 (.int .i64 k1) (cm_sets HR.out.ok.e8 HR.out.ok.p8 k1 0#32).2.1
  rw [← hW] at HR1
  have HR := hid HR1
  clear hW HR1
  have k0 : V1.cell? ⟨gC, 0, none⟩ = some (.int .i64 4) := HR.out.c.cell (cm_at HR.out.ok.e8 HR.out.ok.p8).1
  go_wp2_with (first
    | (refine wpList_store_i rfl 3 (.tmp 11) (.tmp 10) rfl gC 30 .i64 k1 rfl rfl _ info_i cz fz V1 HW.out ?_)
    | fail)
  clear HW k0 cz fz
  refine (HR.out.abv hm 1099511627776 q2 EQ2.out k2 HK2.out).mono ?_
  rintro r v2 ⟨rfl, HR1⟩
  have HR := hid HR1
  clear HR1
  have cz := HR.out.c.cell (cm_at HR.out.ok.e8 HR.out.ok.p8).2.2.1
  have fz := HR.out.c.frozen 31
  obtain ⟨V2, hW⟩ : ∃ W, W = v2.setCell ⟨gC, 31, none⟩ (.int .i64 k2) := ⟨_, rfl⟩
  have HW := hid hW
  have HR1 := HR.out.put { zcm with kd := 4, dv := k1, rq := k2 } ⟨HR.out.ok.e8, HR.out.ok.p8, HR.out.ok.len, HR.out.ok.cap, HR.out.ok.max, HR.out.ok.see⟩ HR.out.n31 (HR.out.low rfl rfl) 31 (.int .i64 k2) (cm_sets HR.out.ok.e8 HR.out.ok.p8 k2 0#32).2.2.1
  rw [← hW] at HR1
  have HR := hid HR1
  clear hW HR1
  have k0 : V2.cell? ⟨gC, 0, none⟩ = some (.int .i64 4) := HR.out.c.cell (cm_at HR.out.ok.e8 HR.out.ok.p8).1
  obtain ⟨X, hX⟩ : ∃ X : Cm, X = { zcm with kd := 4, dv := k1, rq := k2 } := ⟨_, rfl⟩
  rw [← hX] at HR
  have HXR : Hid (cab X = rxq l a e 4) := hid (by rw [hX, HRW.out]; rfl)
  clear hX
  have kE : V2.cell? ⟨g, 1, none⟩ = some (.int .i64 q2.2.2) := HR.out.rd.facts.2.1
  obtain ⟨e5, he5⟩ : ∃ z, z = q2.2.2 := ⟨_, rfl⟩
  rw [← he5] at kE
  have HE5 := hid he5
  clear he5
  by_cases he : e5 = 0
  · have ke : (e5 != 0) = false := by simpa using he
    have RB := HR.out.z
    obtain ⟨xc, hxc⟩ : ∃ c, c = cmc X := ⟨_, rfl⟩
    have HXL : Hid (xc.length = 63) := hid (by rw [hxc]; exact cmc_len HR.out.ok.e8 HR.out.ok.p8)
    have HXO : Hid (xc.toArray.all (·.oneCell') = true) := hid (by rw [hxc]; exact all_oneCell_toArray (cmc_one X))
    have HXC := hid hxc
    have RG := HR.out.c.range 0 xc (by rw [← hxc, List.drop_zero, List.take_length])
    have T8 := RB.there 0 63 (by decide)
    have FIN := RB.wholeT (ds := xc) HXL.out
    have O8 := HXO.out
    have hfr : farCm w.heap.size X := HR.out.fl.far (Nat.le_of_lt HR.out.hC)
    have okR : okCm (V2.setCells w.heap.size 0 xc) X := HR.out.ok.kept2 hfr hfr (Grown2.two (grown_sets w.heap.size xc 0 V2))
    have lowR : lowCm w.heap.size X := fun ad e hn => by have := HR.out.fl ad e hn; have := HR.out.hC; omega
    have R9 := HR.out.rd.off (grown_sets w.heap.size xc 0 V2) (by have := HGL.out; omega)
    have G9 := grown_new HR.out.gr (grown_sets w.heap.size xc 0 V2) (Nat.le_refl _)
    have HT := HT0.out
    rw [if_pos (by rw [← HE5.out]; exact he)] at HT
    have HT := hid HT
    clear hxc RB hfr he
    go_wp2_with (first
      | (refine wpList_store_i rfl 3 (.tmp 14) (.tmp 13) rfl gC 31 .i64 k2 rfl rfl _ info_i cz fz V2 HW.out ?_)
      | (refine wpList_load_mid rfl 41 (.tmp 3) rfl gC 0 rfl xc _ RG hu rfl (by rw [HXL.out]; exact info_cm) ?_)
      | (refine wpList_store_mid rfl 41 (.tmp 2) (.tmp 53) rfl w.heap.size 0 xc.toArray rfl rfl (by simpa [HXL.out] using T8) (by simpa [HXL.out] using info_cm) O8 ?_)
      | fail)
    exact bodyPost_ret (v := .agg xc.toArray) (tok_results (q := 2) rfl _ _ w.heap.size xc _ rfl FIN hu rfl (by rw [HXL.out]; exact info_cm)) rfl ⟨⟨X, by rw [HXC.out], okR, by rw [HT.out]; exact HXR.out, HR.out.n31, lowR⟩, by rw [HT.out]; exact R9, G9⟩
  · have ke : (e5 != 0) = true := by simpa using he
    have RB := HR.out.z
    have T8 := RB.there 0 63 (by decide)
    have FIN := RB.wholeT (ds := zs) HZL.out
    have okR := zcm_ok (V2.setCells w.heap.size 0 zs)
    have lowR : lowCm w.heap.size zcm := fun ad e hn => by cases e
    have R9 := HR.out.rd.off (grown_sets w.heap.size zs 0 V2) (by have := HGL.out; omega)
    have G9 := grown_new HR.out.gr (grown_sets w.heap.size zs 0 V2) (Nat.le_refl _)
    have HT := HT0.out
    rw [if_neg (by rw [← HE5.out]; exact he)] at HT
    have HT := hid HT
    have O8 := HZO.out
    clear RB he
    go_wp2_with (first
      | (refine wpList_store_i rfl 3 (.tmp 14) (.tmp 13) rfl gC 31 .i64 k2 rfl rfl _ info_i cz fz V2 HW.out ?_)
      | (refine wpList_store_mid rfl 41 (.tmp 2) (.tmp 52) rfl w.heap.size 0 zs.toArray rfl (by rw [HZS.out]; rfl) (by simpa [HZL.out] using T8) (by simpa [HZL.out] using info_cm) O8 ?_)
      | fail)
    exact bodyPost_ret (v := .agg zs.toArray) (tok_results (q := 2) rfl _ _ w.heap.size zs _ rfl FIN hu rfl (by rw [HZL.out]; exact info_cm)) rfl ⟨⟨zcm, by rw [HZS.out], okR, by rw [HT.out]; rfl, Nat.zero_le _, lowR⟩, by rw [HT.out]; exact R9, G9⟩
end Go.Proofs.YtnhcjadkbogioaaGreat
