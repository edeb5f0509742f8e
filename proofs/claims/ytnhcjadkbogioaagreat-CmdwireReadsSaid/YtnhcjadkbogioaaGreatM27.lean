/- Commands as the document reads them: what Read returns: kind 5. -/
import Derived.Test.YtnhcjadkbogioaaGreatM25
import Derived.Test.YtnhcjadkbogioaaGreatM26
import Derived.Test.YtnhcjadkbogioaaGreatM2
import Derived.Laws.EntriesVeiled
import Derived.Test.YtnhcjadkbogioaaGreatM18
set_option maxRecDepth 100000
set_option linter.unusedVariables false
set_option linter.unusedSimpArgs false
set_option maxHeartbeats 12800000
namespace Go.Proofs.YtnhcjadkbogioaaGreat
open Go Go.RowKit OctM BitM
theorem rcread_5 (base g : Nat) (l : List UInt8) (a : Nat) (e : Int) (w : World) (h : Rr w base g (l.drop a) e) (ha : a ≤ l.length) (hm : l.length ≤ 4000) (hk : (roA l a e).1 = 5) :
    Calls Tryz.prog 8 #[.pointer (some ⟨g, 0, none⟩)] w (CmReadR w base g l (cmOut l a e)) := by
  have hu := Tryz.underlying41
  have hgl := h.block.2
  have HA := Lib.hid (fun (wz : World) (hz : Rr wz base g (l.drop a) e) => (rr_abvE base g l a e 5 wz hz hm).mono (R' := fun r w' => r = .returned (.int .i64 5) ∧ Rr w' base g (l.drop (roA l a e).2.1) (roA l a e).2.2 ∧ wz.grownBy w' (some g)) (by
    rintro r w' ⟨rfl, hr, hG⟩
    exact ⟨by rw [show (abvOut l a e 5).1 = 5 from hk]; rfl, hr, hG⟩))
  obtain ⟨T, hT⟩ : ∃ T, T = cmOut l a e := ⟨_, rfl⟩
  have hT2 : T = (if (roRaw l a e).2.2 = 0 then (roRaw l a e).1 else zcm, (roRaw l a e).2.1, (roRaw l a e).2.2) := hT
  rw [← hT]
  have at0 : (roA l a e).2.1 ≤ l.length := abvOut_at _ _ _ _ ha
  rw [ro_5 hk] at hT2
  simp only at hT2
  obtain ⟨q0, hq0⟩ : ∃ q, q = roA l a e := ⟨_, rfl⟩
  rw [← hq0] at HA at0
  obtain ⟨q1, hq1⟩ : ∃ q, q = roT l a e := ⟨_, rfl⟩
  have eq1 : q1 = numOut l q0.2.1 q0.2.2 1099511627776 := by rw [hq1, hq0]; rfl
  have at1 : q1.2.1 ≤ l.length := by rw [eq1]; exact numOut_at _ _ _ _ at0
  obtain ⟨k1, hk1⟩ : ∃ k : Int, k = (q1.1 : Int) := ⟨_, rfl⟩
  have HT0 : Hid (T = (if q1.2.2 = 0 then rx5 l a e else zcm, q1.2.1, q1.2.2)) := hid (by rw [hT2, hq1])
  have HRW : Hid (rx5 l a e = { zcm with kd := 5, kp := k1 }) := hid (by rw [hk1, hq1]; rfl)
  have EQ1 := hid eq1
  have HK1 := hid hk1
  clear eq1 hq1 hk1 hq0 hT hT2 hk ha
  obtain ⟨zs, hzs⟩ : ∃ zs, zs = cmc zcm := ⟨_, rfl⟩
  have HZL : Hid (zs.length = 63) := hid (by rw [hzs]; rfl)
  have HZO : Hid (zs.toArray.all (·.oneCell') = true) := hid (by rw [hzs]; exact all_oneCell_toArray (cmc_one zcm))
  have HZS := hid hzs
  obtain ⟨x0, hx0⟩ : ∃ c, c = cmc { zcm with kd := 5 } := ⟨_, rfl⟩
  have HX0 := hid hx0
  have HX0L : Hid (x0.length = 63) := hid (by rw [hx0]; rfl)
  have HX0O : Hid (x0.toArray.all (·.oneCell') = true) := hid (by rw [hx0]; exact all_oneCell_toArray (cmc_one _))
  obtain ⟨W0, hW0⟩ : ∃ W0, W0 = w.alloc (.cells zA63 41) := ⟨_, rfl⟩
  have HW0 := hid hW0
  have HR0 : Hid (Rr W0 base g (l.drop a) e) := hid (by rw [hW0]; exact h.later (below_a1C w _))
  have HB0 : Hid (Blk W0 w.heap.size (cmc zcm)) := hid (by rw [hW0]; exact Blk.new w (cmc zcm) 41)
  have HG0 : Hid (w.grownBy W0 (some g)) := hid (by rw [hW0]; exact grown_onto (World.grownBy.refl w (some g)) (below_a1C w _))
  have HGL := hid hgl
  have HZ0 : Hid (W0.heap.size = w.heap.size + 1) := hid (by rw [hW0]; simp)
  clear hW0 hx0 hzs hgl h
  go_enter Tryz.func8, Tryz.ntmps8
  go_wp2_with fail
  rw [← HW0.out]
  clear HW0
  refine (HA.out W0 HR0.out).mono ?_
  rintro r w1 ⟨rfl, hr1, hG1⟩
  have HR1 := hid hr1
  have HB1 := hid (HB0.out.kept hG1 (by have := HGL.out; intro e; injection e with e; omega))
  have HG1 := hid (HG0.out.trans hG1)
  have HS1 : Hid (w.heap.size < w1.heap.size) := hid (by have := hG1.size; have := HZ0.out; omega)
  clear hr1 hG1 HA HR0 HB0 HG0 HZ0
  have TH : (w1.alloc (.cells zA63 41)).there w1.heap.size 0 63 := (Blk.new w1 (cmc zcm) 41).there 0 63 (by decide)
  obtain ⟨W2, hW2⟩ : ∃ W2, W2 = (w1.alloc (.cells zA63 41)).setCells w1.heap.size 0 x0 := ⟨_, rfl⟩
  have HW2 := hid hW2
  have hbA := below_a1C w1 (.cells zA63 41)
  have HR : Hid (RE w base g w1.heap.size l W2 { zcm with kd := 5 } q0.2.1 q0.2.2) := Lib.hid (by
    have hlt := HR1.out.block.2
    rw [hW2]
    refine ⟨(HR1.out.later hbA).off (grown_sets w1.heap.size x0 0 _) (by omega), ?_, (HB1.out.later hbA).setsOther (by have := HS1.out; omega) _ _, ⟨rfl, rfl, rfl, Nat.le_refl _, Nat.zero_le _, Sees.nil_⟩, Nat.zero_le _, fun ad e hn => (by cases e), grown_new (grown_onto HG1.out hbA) (grown_sets w1.heap.size x0 0 _) (Nat.le_of_lt HS1.out), HGL.out, HS1.out⟩
    rw [← HX0.out]
    exact (Blk.new w1 (cmc zcm) 41).wholeT (by rw [HX0L.out]; rfl))
  have k0 : W2.cell? ⟨w1.heap.size, 0, none⟩ = some (.int .i64 5) := HR.out.c.cell (j := 0) rfl
  clear hW2 hbA HR1 HB1 HG1 HS1
  go_wp2_with (first
    | (refine wpList_store_asC rfl 41 (.tmp 3) (.tmp 6) rfl w1.heap.size 0 x0.toArray rfl (by rw [HX0.out]; rfl) (by simpa [HX0L.out] using TH) (by simpa [HX0L.out] using info_cm) HX0O.out W2 HW2.out ?_)
    | fail)
  clear TH HW2 HX0 HX0L HX0O k0
  generalize w1.heap.size = gC at *
  refine (HR.out.num hm 1099511627776 q1 EQ1.out k1 HK1.out).mono ?_
  rintro r v1 ⟨rfl, HR1⟩
  have HR := hid HR1
  clear HR1
  have cz := HR.out.c.cell (cm_at HR.out.ok.e8 HR.out.ok.p8).2.2.2.2.2.1
  have fz := HR.out.c.frozen 34
  obtain ⟨V1, hW⟩ : ∃ W, W = v1.setCell ⟨gC, 34, none⟩ (.int .i64 k1) := ⟨_, rfl⟩
  have HW := hid hW
  have HR1 := HR.out.put { zcm with kd := 5, kp := k1 } ⟨HR.out.ok.e8, HR.out.ok.p8, HR.out.ok.len, HR.out.ok.cap, HR.out.ok.max, HR.out.ok.see⟩ HR.out.n31 (HR.out.low rfl rfl) 34 (.int .i64 k1) (cm_sets HR.out.ok.e8 HR.out.ok.p8 k1 0#32).2.2.2.2.2.1
  rw [← hW] at HR1
  have HR := hid HR1
  clear hW HR1
  have k0 : V1.cell? ⟨gC, 0, none⟩ = some (.int .i64 5) := HR.out.c.cell (cm_at HR.out.ok.e8 HR.out.ok.p8).1
  obtain ⟨X, hX⟩ : ∃ X : Cm, X = { zcm with kd := 5, kp := k1 } := ⟨_, rfl⟩
  rw [← hX] at HR
  have HXR : Hid (cab X = rx5 l a e) := hid (by rw [hX, HRW.out]; rfl)
  clear hX
  have kE : V1.cell? ⟨g, 1, none⟩ = some (.int .i64 q1.2.2) := HR.out.rd.facts.2.1
  obtain ⟨e5, he5⟩ : ∃ z, z = q1.2.2 := ⟨_, rfl⟩
  rw [← he5] at kE
  have HE5 := hid he5
  clear he5
  by_cases he : e5 = 0
  · have ke : (e5 != 0) = false := by simpa using he
    have RB := HR.out.z
    obtain ⟨xc, hxc⟩ : ∃ c, c = cmc X := ⟨_, rfl⟩
    have HXL : Hid (xc.length = 63) := hid (by rw [hxc]; exact cmc_len HR.out.ok.e8 HR.out.ok.p8)
    have HXO : Hid (xc.toArray.all (·.oneCell') = true) := hid (by rw [hxc]; exact all_oneCell_toArray (cmc_one X))
    have HXC := hid hxc
    have RG := HR.out.c.range 0 xc (by rw [← hxc, List.drop_zero, List.take_length])
    have T8 := RB.there 0 63 (by decide)
    have FIN := RB.wholeT (ds := xc) HXL.out
    have O8 := HXO.out
    have hfr : farCm w.heap.size X := HR.out.fl.far (Nat.le_of_lt HR.out.hC)
    have okR : okCm (V1.setCells w.heap.size 0 xc) X := HR.out.ok.kept2 hfr hfr (Grown2.two (grown_sets w.heap.size xc 0 V1))
    have lowR : lowCm w.heap.size X := fun ad e hn => by have := HR.out.fl ad e hn; have := HR.out.hC; omega
    have R9 := HR.out.rd.off (grown_sets w.heap.size xc 0 V1) (by have := HGL.out; omega)
    have G9 := grown_new HR.out.gr (grown_sets w.heap.size xc 0 V1) (Nat.le_refl _)
    have HT := HT0.out
    rw [if_pos (by rw [← HE5.out]; exact he)] at HT
    have HT := hid HT
    clear hxc RB hfr he
    go_wp2_with (first
      | (refine wpList_store_i rfl 3 (.tmp 24) (.tmp 23) rfl gC 34 .i64 k1 rfl rfl _ info_i cz fz V1 HW.out ?_)
      | (refine wpList_load_mid rfl 41 (.tmp 3) rfl gC 0 rfl xc _ RG hu rfl (by rw [HXL.out]; exact info_cm) ?_)
      | (refine wpList_store_mid rfl 41 (.tmp 2) (.tmp 53) rfl w.heap.size 0 xc.toArray rfl rfl (by simpa [HXL.out] using T8) (by simpa [HXL.out] using info_cm) O8 ?_)
      | fail)
    exact bodyPost_ret (v := .agg xc.toArray) (tok_results (q := 2) rfl _ _ w.heap.size xc _ rfl FIN hu rfl (by rw [HXL.out]; exact info_cm)) rfl ⟨⟨X, by rw [HXC.out], okR, by rw [HT.out]; exact HXR.out, HR.out.n31, lowR⟩, by rw [HT.out]; exact R9, G9⟩
  · have ke : (e5 != 0) = true := by simpa using he
    have RB := HR.out.z
    have T8 := RB.there 0 63 (by decide)
    have FIN := RB.wholeT (ds := zs) HZL.out
    have okR := zcm_ok (V1.setCells w.heap.size 0 zs)
    have lowR : lowCm w.heap.size zcm := fun ad e hn => by cases e
    have R9 := HR.out.rd.off (grown_sets w.heap.size zs 0 V1) (by have := HGL.out; omega)
    have G9 := grown_new HR.out.gr (grown_sets w.heap.size zs 0 V1) (Nat.le_refl _)
    have HT := HT0.out
    rw [if_neg (by rw [← HE5.out]; exact he)] at HT
    have HT := hid HT
    have O8 := HZO.out
    clear RB he
    go_wp2_with (first
      | (refine wpList_store_i rfl 3 (.tmp 24) (.tmp 23) rfl gC 34 .i64 k1 rfl rfl _ info_i cz fz V1 HW.out ?_)
      | (refine wpList_store_mid rfl 41 (.tmp 2) (.tmp 52) rfl w.heap.size 0 zs.toArray rfl (by rw [HZS.out]; rfl) (by simpa [HZL.out] using T8) (by simpa [HZL.out] using info_cm) O8 ?_)
      | fail)
    exact bodyPost_ret (v := .agg zs.toArray) (tok_results (q := 2) rfl _ _ w.heap.size zs _ rfl FIN hu rfl (by rw [HZL.out]; exact info_cm)) rfl ⟨⟨zcm, by rw [HZS.out], okR, by rw [HT.out]; rfl, Nat.zero_le _, lowR⟩, by rw [HT.out]; exact R9, G9⟩
theorem rcread_any (base g : Nat) (l : List UInt8) (a : Nat) (e : Int) (w : World) (h : Rr w base g (l.drop a) e) (ha : a ≤ l.length) (hm : l.length ≤ 4000) :
    Calls Tryz.prog 8 #[.pointer (some ⟨g, 0, none⟩)] w (CmReadR w base g l (cmOut l a e)) := by
  rcases roA_cases (l := l) (a := a) (e := e) with k | k | k | k | k | k
  · exact rcread_0 base g l a e w h ha hm k
  · exact rcread_1 base g l a e w h ha hm k
  · exact rcread_2 base g l a e w h ha hm k
  · exact rcread_3 base g l a e w h ha hm k
  · exact rcread_4 base g l a e w h ha hm k
  · exact rcread_5 base g l a e w h ha hm k
theorem rcdec_z (l : List UInt8) (w : World) (hm : l.length ≤ 4000) (he : (decOut l).2 = 0) :
    Calls Tryz.prog 12 #[.string (str l)] w (CmDec w (decOut l)) := by
  have hu := Tryz.underlying41
  obtain ⟨T, hT⟩ : ∃ T, T = decOut l := ⟨_, rfl⟩
  rw [← hT] at he ⊢
  have hT2 : T = (if endOut l.length (cmOut l 0 0).2.1 (cmOut l 0 0).2.2 = 0 then (cmOut l 0 0).1 else zcm, endOut l.length (cmOut l 0 0).2.1 (cmOut l 0 0).2.2) := hT
  have ha5 := cmOut_at (l := l) (a := 0) (e := 0) (Nat.zero_le _)
  obtain ⟨q, hq⟩ : ∃ q, q = cmOut l 0 0 := ⟨_, rfl⟩
  have HRD := hid (fun (base g : Nat) (wz : World) (h : Rr wz base g (l.drop 0) 0) => rcread_any base g l 0 0 wz h (Nat.zero_le _) hm)
  rw [← hq] at hT2 HRD ha5
  obtain ⟨E, hE⟩ : ∃ E, E = endOut l.length q.2.1 q.2.2 := ⟨_, rfl⟩
  rw [← hE] at hT2
  have HEN := hid (fun (base g : Nat) (wz : World) (h : Rr wz base g (l.drop q.2.1) q.2.2) => rr_end base g (l.drop q.2.1) q.2.2 wz h)
  rw [same_end l q.2.1 q.2.2 ha5, ← hE] at HEN
  have hE2 : T.2 = E := by rw [hT2]
  rw [hE2] at he
  rw [if_pos he] at hT2
  have HT := hid hT2
  have ke : (E != 0) = false := by simpa using he
  have HEE := hid he
  obtain ⟨zs, hzs⟩ : ∃ zs, zs = cmc zcm := ⟨_, rfl⟩
  have HZL : Hid (zs.length = 63) := hid (by rw [hzs]; rfl)
  have HZO : Hid (zs.toArray.all (·.oneCell') = true) := hid (by rw [hzs]; exact all_oneCell_toArray (cmc_one zcm))
  have HZS := hid hzs
  obtain ⟨W0, hW0⟩ : ∃ W0, W0 = w.alloc (.cells zA63 41) := ⟨_, rfl⟩
  have HW0 := hid hW0
  have HB0 : Hid (Blk W0 w.heap.size zs) := hid (by rw [hW0, hzs]; exact Blk.new w (cmc zcm) 41)
  have HZ0 : Hid (W0.heap.size = w.heap.size + 1) := hid (by rw [hW0]; simp)
  have HL0 : Hid (Below w.heap.size w W0) := hid (by rw [hW0]; exact below_a1C w _)
  obtain ⟨ss, hss⟩ : ∃ ss, ss = str l := ⟨_, rfl⟩
  rw [← hss]
  have HSS := hid hss
  clear hW0 hzs hT hT2 hE hE2 hq he ha5 hss
  go_enter Tryz.func12, Tryz.ntmps12
  go_wp2_with fail
  rw [← HW0.out]
  clear HW0
  obtain ⟨w1, hw1⟩ : ∃ w1, w1 = W0.alloc (.cells #[.string ss, .int .i64 0] 29) := ⟨_, rfl⟩
  rw [← hw1]
  have hb1 : Below W0.heap.size W0 w1 := by rw [hw1]; exact below_a1C W0 _
  have hr1 : Rr w1 W0.heap.size W0.heap.size (l.drop 0) 0 := by
    rw [hw1, List.drop_zero]
    have h := own_lit W0 W0.heap.size 29 #[.string ss, .int .i64 0] (Nat.le_refl _) (by simp [maxLen])
    rw [HSS.out] at h ⊢
    exact h
  have hsz : W0.heap.size = w.heap.size + 1 := HZ0.out
  have hg1s : W0.heap.size < w1.heap.size := hr1.block.2
  rw [hsz] at hr1 hb1 hg1s
  have HG1 : Hid (w.heap.size < w.heap.size + 1 ∧ w.heap.size + 1 ≤ w.heap.size + 1) := hid ⟨Nat.lt_succ_self _, Nat.le_refl _⟩
  clear hw1 hsz HZ0
  generalize hgn : w.heap.size + 1 = g at *
  clear hgn
  have HR1 := hid hr1
  have HB1 := hid (HB0.out.below hb1 HG1.out.1)
  have HWS : Hid (w.heap.size < w1.heap.size) := hid HB1.out.lt
  have HL1 := hid (HL0.out.trans (hb1.mono (Nat.le_of_lt HG1.out.1)))
  have HG2 := hid hg1s
  clear hr1 hb1 hg1s HB0 HL0
  refine (HRD.out g g w1 HR1.out).mono ?_
  rintro r w2 ⟨⟨X, rfl, okX, cabX, nX, lowX⟩, hr2, hg2⟩
  have HR2 := hid hr2
  have HB2 := hid (HB1.out.kept hg2 (by have := HG1.out; intro e; injection e with e; omega))
  have HL2 := hid (HL1.out.trans (below_rowI hg2 (by have := HG1.out; omega) HL1.out.size))
  have HLX := hid lowX
  have HOK := hid okX
  clear hr2 hg2 HR1 HB1 HL1 HRD lowX
  obtain ⟨xc, hxc⟩ : ∃ xc, xc = cmc X := ⟨_, rfl⟩
  have HXL : Hid (xc.length = 63) := hid (by rw [hxc]; exact cmc_len okX.e8 okX.p8)
  have HXO : Hid (xc.toArray.all (·.oneCell') = true) := hid (by rw [hxc]; exact all_oneCell_toArray (cmc_one X))
  have HXC := hid hxc
  rw [← hxc]
  have TH : (w2.alloc (.cells zA63 41)).there w2.heap.size 0 63 := (Blk.new w2 (cmc zcm) 41).there 0 63 (by decide)
  obtain ⟨W3, hW3⟩ : ∃ W, W = (w2.alloc (.cells zA63 41)).setCells w2.heap.size 0 xc := ⟨_, rfl⟩
  have HW3 := hid hW3
  have hbA := below_a1C w2 (.cells zA63 41)
  have HR3 : Hid (Rr W3 g g (l.drop q.2.1) q.2.2) := hid (by rw [hW3]; exact (HR2.out.later hbA).off (grown_sets w2.heap.size xc 0 _) (by have := HR2.out.block.2; omega))
  have HB3 : Hid (Blk W3 w.heap.size zs) := hid (by rw [hW3]; exact (HB2.out.later hbA).setsOther (by have := HB2.out.lt; omega) _ _)
  have HC3 : Hid (Blk W3 w2.heap.size xc) := hid (by rw [hW3]; exact (Blk.new w2 (cmc zcm) 41).wholeT (by rw [HXL.out]; rfl))
  have HL3 : Hid (Below w.heap.size w W3) := hid (by rw [hW3]; exact below_sets (by have := HB2.out.lt; omega) xc 0 (HL2.out.trans (hbA.mono HL2.out.size)))
  have HK3 : Hid (okCm W3 X) := hid (by rw [hW3]; exact (okX.later hbA).kept2 (okX.low (Nat.le_refl _)) (okX.low (Nat.le_refl _)) (Grown2.two (grown_sets w2.heap.size xc 0 _)))
  clear hW3 hbA HR2 HB2 HL2 hxc okX
  go_wp2_with (first
    | (refine wpList_store_asC rfl 41 (.tmp 5) (.tmp 11) rfl w2.heap.size 0 xc.toArray rfl rfl (by simpa [HXL.out] using TH) (by simpa [HXL.out] using info_cm) HXO.out W3 HW3.out ?_)
    | fail)
  clear TH HW3
  generalize w2.heap.size = gC at *
  refine (HEN.out g g W3 HR3.out).mono ?_
  rintro r w4 ⟨rfl, rfl⟩
  have HB4 := HB3
  have HC4 := HC3
  have HK4 := HK3
  have HL4 := HL3
  clear HB3 HC3 HK3 HL3 HR3 HEN
  generalize W3 = w4 at *
  have T8 := HB4.out.there 0 63 (by rw [HZL.out]; omega)
  have RG := HC4.out.range 0 xc (by rw [List.drop_zero, List.take_length])
  have FIN := HB4.out.wholeT (ds := xc) (HXL.out.trans HZL.out.symm)
  have hfr : farCm w.heap.size X := fun ad e hn => by have := HLX.out ad e hn; have := HWS.out; omega
  have okR : okCm (w4.setCells w.heap.size 0 xc) X := HK4.out.kept2 hfr hfr (Grown2.two (grown_sets w.heap.size xc 0 w4))
  have hbF : Below w.heap.size w (w4.setCells w.heap.size 0 xc) := below_sets (Nat.le_refl _) xc 0 HL4.out
  have hE0 : E = 0 := HEE.out
  have O8 := HXO.out
  clear hfr
  go_wp2_with (first
    | (refine wpList_load_mid rfl 41 (.tmp 5) rfl gC 0 rfl xc _ RG hu rfl (by rw [HXL.out]; exact info_cm) ?_)
    | (refine wpList_store_mid rfl 41 (.tmp 2) (.tmp 18) rfl w.heap.size 0 xc.toArray rfl rfl (by simpa [HXL.out] using T8) (by simpa [HXL.out] using info_cm) O8 ?_)
    | fail)
  exact bodyPost_ret (v := .tuple #[.agg xc.toArray, .int .i64 0]) (results_blk_tmp (q := 2) (p := 3) rfl _ _ w.heap.size xc _ (.int .i64 0) rfl rfl FIN hu rfl (by rw [HXL.out]; exact info_cm)) rfl ⟨⟨X, by rw [HT.out, HXC.out, hE0], okR, by rw [HT.out]; exact cabX, nX⟩, hbF⟩
theorem rcdec_n (l : List UInt8) (w : World) (hm : l.length ≤ 4000) (he : (decOut l).2 ≠ 0) :
    Calls Tryz.prog 12 #[.string (str l)] w (CmDec w (decOut l)) := by
  have hu := Tryz.underlying41
  obtain ⟨T, hT⟩ : ∃ T, T = decOut l := ⟨_, rfl⟩
  rw [← hT] at he ⊢
  have hT2 : T = (if endOut l.length (cmOut l 0 0).2.1 (cmOut l 0 0).2.2 = 0 then (cmOut l 0 0).1 else zcm, endOut l.length (cmOut l 0 0).2.1 (cmOut l 0 0).2.2) := hT
  have ha5 := cmOut_at (l := l) (a := 0) (e := 0) (Nat.zero_le _)
  obtain ⟨q, hq⟩ : ∃ q, q = cmOut l 0 0 := ⟨_, rfl⟩
  have HRD := hid (fun (base g : Nat) (wz : World) (h : Rr wz base g (l.drop 0) 0) => rcread_any base g l 0 0 wz h (Nat.zero_le _) hm)
  rw [← hq] at hT2 HRD ha5
  obtain ⟨E, hE⟩ : ∃ E, E = endOut l.length q.2.1 q.2.2 := ⟨_, rfl⟩
  rw [← hE] at hT2
  have HEN := hid (fun (base g : Nat) (wz : World) (h : Rr wz base g (l.drop q.2.1) q.2.2) => rr_end base g (l.drop q.2.1) q.2.2 wz h)
  rw [same_end l q.2.1 q.2.2 ha5, ← hE] at HEN
  have hE2 : T.2 = E := by rw [hT2]
  rw [hE2] at he
  rw [if_neg he] at hT2
  have HT := hid hT2
  have ke : (E != 0) = true := by simpa using he
  have HEE := hid he
  obtain ⟨zs, hzs⟩ : ∃ zs, zs = cmc zcm := ⟨_, rfl⟩
  have HZL : Hid (zs.length = 63) := hid (by rw [hzs]; rfl)
  have HZO : Hid (zs.toArray.all (·.oneCell') = true) := hid (by rw [hzs]; exact all_oneCell_toArray (cmc_one zcm))
  have HZS := hid hzs
  obtain ⟨W0, hW0⟩ : ∃ W0, W0 = w.alloc (.cells zA63 41) := ⟨_, rfl⟩
  have HW0 := hid hW0
  have HB0 : Hid (Blk W0 w.heap.size zs) := hid (by rw [hW0, hzs]; exact Blk.new w (cmc zcm) 41)
  have HZ0 : Hid (W0.heap.size = w.heap.size + 1) := hid (by rw [hW0]; simp)
  have HL0 : Hid (Below w.heap.size w W0) := hid (by rw [hW0]; exact below_a1C w _)
  obtain ⟨ss, hss⟩ : ∃ ss, ss = str l := ⟨_, rfl⟩
  rw [← hss]
  have HSS := hid hss
  clear hW0 hzs hT hT2 hE hE2 hq he ha5 hss
  go_enter Tryz.func12, Tryz.ntmps12
  go_wp2_with fail
  rw [← HW0.out]
  clear HW0
  obtain ⟨w1, hw1⟩ : ∃ w1, w1 = W0.alloc (.cells #[.string ss, .int .i64 0] 29) := ⟨_, rfl⟩
  rw [← hw1]
  have hb1 : Below W0.heap.size W0 w1 := by rw [hw1]; exact below_a1C W0 _
  have hr1 : Rr w1 W0.heap.size W0.heap.size (l.drop 0) 0 := by
    rw [hw1, List.drop_zero]
    have h := own_lit W0 W0.heap.size 29 #[.string ss, .int .i64 0] (Nat.le_refl _) (by simp [maxLen])
    rw [HSS.out] at h ⊢
    exact h
  have hsz : W0.heap.size = w.heap.size + 1 := HZ0.out
  have hg1s : W0.heap.size < w1.heap.size := hr1.block.2
  rw [hsz] at hr1 hb1 hg1s
  have HG1 : Hid (w.heap.size < w.heap.size + 1 ∧ w.heap.size + 1 ≤ w.heap.size + 1) := hid ⟨Nat.lt_succ_self _, Nat.le_refl _⟩
  clear hw1 hsz HZ0
  generalize hgn : w.heap.size + 1 = g at *
  clear hgn
  have HR1 := hid hr1
  have HB1 := hid (HB0.out.below hb1 HG1.out.1)
  have HWS : Hid (w.heap.size < w1.heap.size) := hid HB1.out.lt
  have HL1 := hid (HL0.out.trans (hb1.mono (Nat.le_of_lt HG1.out.1)))
  have HG2 := hid hg1s
  clear hr1 hb1 hg1s HB0 HL0
  refine (HRD.out g g w1 HR1.out).mono ?_
  rintro r w2 ⟨⟨X, rfl, okX, cabX, nX, lowX⟩, hr2, hg2⟩
  have HR2 := hid hr2
  have HB2 := hid (HB1.out.kept hg2 (by have := HG1.out; intro e; injection e with e; omega))
  have HL2 := hid (HL1.out.trans (below_rowI hg2 (by have := HG1.out; omega) HL1.out.size))
  have HLX := hid lowX
  have HOK := hid okX
  clear hr2 hg2 HR1 HB1 HL1 HRD lowX
  obtain ⟨xc, hxc⟩ : ∃ xc, xc = cmc X := ⟨_, rfl⟩
  have HXL : Hid (xc.length = 63) := hid (by rw [hxc]; exact cmc_len okX.e8 okX.p8)
  have HXO : Hid (xc.toArray.all (·.oneCell') = true) := hid (by rw [hxc]; exact all_oneCell_toArray (cmc_one X))
  have HXC := hid hxc
  rw [← hxc]
  have TH : (w2.alloc (.cells zA63 41)).there w2.heap.size 0 63 := (Blk.new w2 (cmc zcm) 41).there 0 63 (by decide)
  obtain ⟨W3, hW3⟩ : ∃ W, W = (w2.alloc (.cells zA63 41)).setCells w2.heap.size 0 xc := ⟨_, rfl⟩
  have HW3 := hid hW3
  have hbA := below_a1C w2 (.cells zA63 41)
  have HR3 : Hid (Rr W3 g g (l.drop q.2.1) q.2.2) := hid (by rw [hW3]; exact (HR2.out.later hbA).off (grown_sets w2.heap.size xc 0 _) (by have := HR2.out.block.2; omega))
  have HB3 : Hid (Blk W3 w.heap.size zs) := hid (by rw [hW3]; exact (HB2.out.later hbA).setsOther (by have := HB2.out.lt; omega) _ _)
  have HC3 : Hid (Blk W3 w2.heap.size xc) := hid (by rw [hW3]; exact (Blk.new w2 (cmc zcm) 41).wholeT (by rw [HXL.out]; rfl))
  have HL3 : Hid (Below w.heap.size w W3) := hid (by rw [hW3]; exact below_sets (by have := HB2.out.lt; omega) xc 0 (HL2.out.trans (hbA.mono HL2.out.size)))
  have HK3 : Hid (okCm W3 X) := hid (by rw [hW3]; exact (okX.later hbA).kept2 (okX.low (Nat.le_refl _)) (okX.low (Nat.le_refl _)) (Grown2.two (grown_sets w2.heap.size xc 0 _)))
  clear hW3 hbA HR2 HB2 HL2 hxc okX
  go_wp2_with (first
    | (refine wpList_store_asC rfl 41 (.tmp 5) (.tmp 11) rfl w2.heap.size 0 xc.toArray rfl rfl (by simpa [HXL.out] using TH) (by simpa [HXL.out] using info_cm) HXO.out W3 HW3.out ?_)
    | fail)
  clear TH HW3
  generalize w2.heap.size = gC at *
  refine (HEN.out g g W3 HR3.out).mono ?_
  rintro r w4 ⟨rfl, rfl⟩
  have HB4 := HB3
  have HC4 := HC3
  have HK4 := HK3
  have HL4 := HL3
  clear HB3 HC3 HK3 HL3 HR3 HEN
  generalize W3 = w4 at *
  have T8 := HB4.out.there 0 63 (by rw [HZL.out]; omega)
  have FIN := HB4.out.wholeT (ds := zs) rfl
  have okR := zcm_ok (w4.setCells w.heap.size 0 zs)
  have hbF : Below w.heap.size w (w4.setCells w.heap.size 0 zs) := below_sets (Nat.le_refl _) zs 0 HL4.out
  have O8 := HZO.out
  go_wp2_with (first
    | (refine wpList_store_mid rfl 41 (.tmp 2) (.tmp 16) rfl w.heap.size 0 zs.toArray rfl (by rw [HZS.out]; rfl) (by simpa [HZL.out] using T8) (by simpa [HZL.out] using info_cm) O8 ?_)
    | fail)
  exact bodyPost_ret (v := .tuple #[.agg zs.toArray, .int .i64 E]) (results_blk_tmp (q := 2) (p := 3) rfl _ _ w.heap.size zs _ (.int .i64 E) rfl rfl FIN hu rfl (by rw [HZL.out]; exact info_cm)) rfl ⟨⟨zcm, by rw [HT.out, HZS.out], okR, by rw [HT.out]; rfl, by decide⟩, hbF⟩
theorem rcdec_any (l : List UInt8) (w : World) (hm : l.length ≤ 4000) : Calls Tryz.prog 12 #[.string (str l)] w (CmDec w (decOut l)) := by
  by_cases he : (decOut l).2 = 0
  · exact rcdec_z l w hm he
  · exact rcdec_n l w hm he
theorem nil_abvC (w : World) (m : Int) : Calls Tryz.prog 16 #[.pointer none, .int .i64 m] w fun x w' => x = .returned (.int .i64 0) ∧ w = w' := by
  go_enter Tryz.func16, Tryz.ntmps16
  go_wp2_with fail
  refine (nil_num _ _).mono ?_
  rintro x w1 ⟨rfl, rfl⟩
  go_wp2_with fail
  refine (nil_fail _ _).mono ?_
  rintro x w1 ⟨rfl, rfl⟩
  go_wp2_with fail
  go_ret
  exact ⟨rfl, rfl⟩
theorem tk_nil (gC : Nat) (w : World) :
    Calls Tryz.prog 17 #[.pointer none, .pointer (some ⟨gC, 0, none⟩)] w fun r w' => r = .returned (.map (some (w.heap.size + 3))) ∧ (Blk w' w.heap.size [.pointer none] ∧ Blk w' (w.heap.size + 1) [.pointer (some ⟨gC, 0, none⟩)] ∧ Blk w' (w.heap.size + 2) [fnR w.heap.size]) ∧ MapI Tryz.prog 3 w' (w.heap.size + 3) 5 (tkm w.heap.size) ∧ Below w.heap.size w w' := by
  have hki := Tryz.underlying3
  have htm := Tryz.underlying57
  obtain ⟨W, hW⟩ : ∃ W, W = ((w.alloc (.cells #[.pointer none] 24)).alloc (.cells #[.pointer (some ⟨gC, 0, none⟩)] 59)).alloc (.cells #[.func (.func 34) #[] #[.pointer (some ⟨w.heap.size, 0, none⟩), .pointer (some ⟨w.heap.size + 1, 0, none⟩)]] 1) := ⟨_, rfl⟩
  have hz : W.heap.size = w.heap.size + 3 := by rw [hW]; simp
  have b1 := below_a1C w (.cells #[.pointer none] 24)
  have b2 := b1.alloc b1.size (.cells #[.pointer (some ⟨gC, 0, none⟩)] 59)
  have hb : Below w.heap.size w W := by rw [hW]; exact b2.alloc b2.size _
  have hB1 : Blk W w.heap.size [.pointer none] := by rw [hW]; exact ((Blk.new w [.pointer none] _).alloc _).alloc _
  have hB2 : Blk W (w.heap.size + 1) [.pointer (some ⟨gC, 0, none⟩)] := by
    have h := (Blk.new (w.alloc (.cells #[.pointer none] 24)) [.pointer (some ⟨gC, 0, none⟩)] 59)
    rw [show (w.alloc (.cells #[.pointer none] 24)).heap.size = w.heap.size + 1 by simp] at h
    rw [hW]; exact h.alloc _
  have hB3 : Blk W (w.heap.size + 2) [fnR w.heap.size] := by
    have h := (Blk.new ((w.alloc (.cells #[.pointer none] 24)).alloc (.cells #[.pointer (some ⟨gC, 0, none⟩)] 59)) [fnR w.heap.size] 1)
    rw [show ((w.alloc (.cells #[.pointer none] 24)).alloc (.cells #[.pointer (some ⟨gC, 0, none⟩)] 59)).heap.size = w.heap.size + 2 by simp] at h
    rw [hW]; exact h
  obtain ⟨s, hs⟩ : ∃ s, s = w.heap.size := ⟨_, rfl⟩
  have HW := hid hW
  have HZ := hid hz
  have HB := hid hb
  have HB1 := hid hB1
  have HB2 := hid hB2
  have HB3 := hid hB3
  clear hW hz hb hB1 hB2 hB3 b1 b2 hs
  go_enter Tryz.func17, Tryz.ntmps17
  go_wp2_with (first
    | (rw [← HW.out]
       refine wpList_mkI (k := 3) rfl none rfl (fun w1 HM1 HBM => ?_)
       rw [HZ.out] at HM1 ⊢
       have HM := HM1
       have BW := hid (HB.out.trans (HBM.mono HB.out.size))
       have B1 := hid (HB1.out.later HBM)
       have B2 := hid (HB2.out.later HBM)
       have B3 := hid (HB3.out.later HBM)
       have kf := B3.out.cell (j := 0) rfl
       clear HM1 HBM HB HB1 HB2 HB3 HW)
    | (refine wpList_insI rfl (.tmp 7) (.tmp 8) 1 rfl HM hki htm (by simp [maxLen]) rfl rfl (fnE w.heap.size) rfl ?_
       intro w' HM' HG'
       have BW := hid (BW.out.trans (below_rowI HG' (by omega) BW.out.size))
       have B1 := hid (B1.out.kept HG' (by intro e; injection e with e; omega))
       have B2 := hid (B2.out.kept HG' (by intro e; injection e with e; omega))
       have B3 := hid (B3.out.kept HG' (by intro e; injection e with e; omega))
       have HM := HM'
       have kf := B3.out.cell (j := 0) rfl
       clear HM' HG')
    | (refine wpList_insI rfl (.tmp 7) (.tmp 9) 5 rfl HM hki htm (by simp [maxLen]) rfl rfl (fnT w.heap.size) rfl ?_
       intro w' HM' HG'
       have BW := hid (BW.out.trans (below_rowI HG' (by omega) BW.out.size))
       have B1 := hid (B1.out.kept HG' (by intro e; injection e with e; omega))
       have B2 := hid (B2.out.kept HG' (by intro e; injection e with e; omega))
       have B3 := hid (B3.out.kept HG' (by intro e; injection e with e; omega))
       have HM := HM'
       have kf := B3.out.cell (j := 0) rfl
       clear HM' HG')
    | (refine wpList_insI rfl (.tmp 7) (.tmp 10) 2 rfl HM hki htm (by simp [maxLen]) rfl rfl (fnP w.heap.size) rfl ?_
       intro w' HM' HG'
       have BW := hid (BW.out.trans (below_rowI HG' (by omega) BW.out.size))
       have B1 := hid (B1.out.kept HG' (by intro e; injection e with e; omega))
       have B2 := hid (B2.out.kept HG' (by intro e; injection e with e; omega))
       have B3 := hid (B3.out.kept HG' (by intro e; injection e with e; omega))
       have HM := HM'
       have kf := B3.out.cell (j := 0) rfl
       clear HM' HG')
    | (refine wpList_insI rfl (.tmp 7) (.tmp 11) 3 rfl HM hki htm (by simp [maxLen]) rfl rfl (fnS w.heap.size) rfl ?_
       intro w' HM' HG'
       have BW := hid (BW.out.trans (below_rowI HG' (by omega) BW.out.size))
       have B1 := hid (B1.out.kept HG' (by intro e; injection e with e; omega))
       have B2 := hid (B2.out.kept HG' (by intro e; injection e with e; omega))
       have B3 := hid (B3.out.kept HG' (by intro e; injection e with e; omega))
       have HM := HM'
       have kf := B3.out.cell (j := 0) rfl
       clear HM' HG')
    | (refine wpList_insI rfl (.tmp 7) (.tmp 12) 4 rfl HM hki htm (by simp [maxLen]) rfl rfl (fnR w.heap.size) rfl ?_
       intro w' HM' HG'
       have BW := hid (BW.out.trans (below_rowI HG' (by omega) BW.out.size))
       have B1 := hid (B1.out.kept HG' (by intro e; injection e with e; omega))
       have B2 := hid (B2.out.kept HG' (by intro e; injection e with e; omega))
       have B3 := hid (B3.out.kept HG' (by intro e; injection e with e; omega))
       have HM := HM'
       have kf := B3.out.cell (j := 0) rfl
       clear HM' HG')
    | fail)
  go_ret
  exact ⟨rfl, ⟨B1.out, B2.out, B3.out⟩, HM, BW.out⟩
theorem zcm_not : ¬ cok zcm := fun h => by
  have h1 := h.1
  have h0 : zcm.kd = 0 := rfl
  rw [h0] at h1
  omega
theorem nil_cmd (w : World) : Calls Tryz.prog 7 #[.pointer none] w fun x w' => x = .returned (.agg (cmc zcm).toArray) ∧ Below w.heap.size w w' := by
  have hu := Tryz.underlying41
  have hki := Tryz.underlying3
  have htm := Tryz.underlying57
  obtain ⟨zs, hzs⟩ : ∃ zs, zs = cmc zcm := ⟨_, rfl⟩
  have HZL : Hid (zs.length = 63) := hid (by rw [hzs]; rfl)
  have HZO : Hid (zs.toArray.all (·.oneCell') = true) := hid (by rw [hzs]; exact all_oneCell_toArray (cmc_one zcm))
  have HZS := hid hzs
  obtain ⟨W0, hW0⟩ : ∃ W0, W0 = w.alloc (.cells zA63 41) := ⟨_, rfl⟩
  have HW0 := hid hW0
  have HB0 : Hid (Blk W0 w.heap.size zs) := hid (by rw [hW0, hzs]; exact Blk.new w (cmc zcm) 41)
  have HL0 : Hid (Below w.heap.size w W0) := hid (by rw [hW0]; exact below_a1C w _)
  clear hW0
  rw [← hzs]
  clear hzs
  go_enter Tryz.func7, Tryz.ntmps7
  go_wp2_with fail
  rw [← HW0.out]
  clear HW0
  refine (nil_abvC W0 5).mono ?_
  rintro r w1 ⟨rfl, rfl⟩
  have TH : (W0.alloc (.cells zA63 41)).there W0.heap.size 0 63 := (Blk.new W0 (cmc zcm) 41).there 0 63 (by decide)
  obtain ⟨W2, hW2⟩ : ∃ W2, W2 = (W0.alloc (.cells zA63 41)).setCells W0.heap.size 0 zs := ⟨_, rfl⟩
  have HW2 := hid hW2
  have hbA := below_a1C W0 (.cells zA63 41)
  have HS1 : Hid (w.heap.size < W0.heap.size) := hid HB0.out.lt
  have HB2 : Hid (Blk W2 w.heap.size zs) := hid (by rw [hW2]; exact (HB0.out.later hbA).setsOther (by have := HS1.out; omega) _ _)
  have HC2 : Hid (Blk W2 W0.heap.size zs) := hid (by rw [hW2]; exact (Blk.new W0 (cmc zcm) 41).wholeT (by rw [HZL.out]; rfl))
  have HL2 : Hid (Below w.heap.size w W2) := hid (by rw [hW2]; exact below_sets (Nat.le_of_lt HS1.out) zs 0 (HL0.out.trans (hbA.mono HL0.out.size)))
  clear hW2 hbA HB0 HL0
  go_wp2_with (first
    | (refine wpList_store_asC rfl 41 (.tmp 3) (.tmp 8) rfl W0.heap.size 0 zs.toArray rfl (by rw [HZS.out]; rfl) (by simpa [HZL.out] using TH) (by simpa [HZL.out] using info_cm) HZO.out W2 HW2.out ?_)
    | fail)
  clear TH HW2
  generalize W0.heap.size = gC at *
  have hS0 : W2.drew.cell? ⟨gC, 0, none⟩ = some (.int .i64 0) := HC2.out.drew.cell (j := 0) (by rw [HZS.out]; rfl)
  refine wp_region_held (S := fun wz => wz.cell? ⟨gC, 0, none⟩ = some (.int .i64 0)) (by kernel_rfl) ?_
  show Go.wpAnyH Tryz.prog Region.Mode.any _ _ _ _ _ _ W2.drew
  have HBd := hid HB2.out.drew
  have HCd := hid HC2.out.drew
  have HLd := hid (HL2.out.trans ((Below.refl W2.heap.size W2).drew.mono HL2.out.size))
  clear HB2 HC2 HL2
  generalize W2.drew = wd at HBd HCd HLd hS0 ⊢
  have hS := hS0
  refine takeH (i := 0) (oi := _) (v := (.pointer none)) (fuel := 9) (some 10) rfl rfl (by kernel_rfl) (by kernel_rfl) (by kernel_rfl) (fun _ _ _ h => h) (.inl ⟨by rfl, fun wz hS => by simp [go_sem]⟩) hS ?_
  simp only [pq4]
  refine takeH (i := 2) (oi := _) (v := (.pointer (some ⟨gC, 0, none⟩))) (fuel := 8) (some 12) rfl rfl (by kernel_rfl) (by kernel_rfl) (by kernel_rfl) (fun _ _ _ h => h) (.inl ⟨by rfl, fun wz hS => by simp [go_sem]⟩) hS ?_
  simp only [pq4]
  refine takeH (i := 3) (oi := _) (v := (.int .i64 0)) (fuel := 7) (some 13) rfl rfl (by kernel_rfl) (by kernel_rfl) (by kernel_rfl) (fun _ _ _ h => h) (.inl ⟨by rfl, fun wz hS => by simp [go_sem, hS]⟩) hS ?_
  simp only [pq4]
  refine allH [1] 1 (fuel := 6) (by kernel_rfl) ?_
  refine callH (some 11) _ rfl rfl 17 #[.pointer none, .pointer (some ⟨gC, 0, none⟩)] (by simp [go_sem]) (by rfl) ?_
  refine (tk_nil gC wd).mono ?_
  rintro r w3 ⟨rfl, ⟨hb1, hb2, hb3⟩, HM, hbl⟩
  have HC3 := hid (HCd.out.later hbl)
  have HB3 := hid (HBd.out.later hbl)
  have HL3 := hid (HLd.out.trans (hbl.mono HLd.out.size))
  have hS : w3.cell? ⟨gC, 0, none⟩ = some (.int .i64 0) := HC3.out.cell (j := 0) (by rw [HZS.out]; rfl)
  have hlk := HM.look2 hki htm (zero_fn w3) (x := 0) rfl
  rw [(tkm_get wd.heap.size).1] at hlk
  refine ⟨_, rfl, hS, ?_⟩
  simp only [pq4]
  refine allH [4] 4 (fuel := 5) (by kernel_rfl) ?_
  refine runH (some 14) _ rfl rfl (by rfl) (.tuple #[.nilFunc, .bool false]) (exec_lookI (.tmp 11) (.tmp 13) rfl 0 rfl rfl hlk) ⟨hS, ?_⟩
  simp only [pq4]
  refine takeH (i := 5) (oi := _) (v := (.tuple #[.nilFunc, .bool false])) (fuel := 4) (some 9) rfl rfl (by kernel_rfl) (by kernel_rfl) (by kernel_rfl) (fun _ _ _ h => h) (.inl ⟨by rfl, fun wz hS => by simp [go_sem]⟩) hS ?_
  simp only [pq4]
  refine takeH (i := 6) (oi := _) (v := (.nilFunc)) (fuel := 3) (some 15) rfl rfl (by kernel_rfl) (by kernel_rfl) (by kernel_rfl) (fun _ _ _ h => h) (.inl ⟨by rfl, fun wz hS => by simp [go_sem]⟩) hS ?_
  simp only [pq4]
  refine takeH (i := 7) (oi := _) (v := (.bool false)) (fuel := 2) (some 16) rfl rfl (by kernel_rfl) (by kernel_rfl) (by kernel_rfl) (fun _ _ _ h => h) (.inl ⟨by rfl, fun wz hS => by simp [go_sem]⟩) hS ?_
  simp only [pq4]
  refine takeH (i := 8) (oi := _) (v := (.nilFunc)) (fuel := 1) (some 4) rfl rfl (by kernel_rfl) (by kernel_rfl) (by kernel_rfl) (fun _ _ _ h => h) (.inl ⟨by rfl, fun wz hS => by simp [go_sem]⟩) hS ?_
  simp only [pq4]
  refine takeH (i := 9) (oi := _) (v := (.bool false)) (fuel := 0) (some 5) rfl rfl (by kernel_rfl) (by kernel_rfl) (by kernel_rfl) (fun _ _ _ h => h) (.inl ⟨by rfl, fun wz hS => by simp [go_sem]⟩) hS ?_
  simp only [pq4]
  refine wpAnyH_done (by kernel_rfl) ?_ 0
  have hch := ccheck_any zcm w3 (zcm_ok w3)
  rw [decide_eq_false zcm_not, ← HZS.out] at hch
  have HCH := hid hch
  have RG := HC3.out.range 0 zs (by rw [List.drop_zero, List.take_length])
  clear hb1 hb2 hb3 HM hbl hlk hS hS0 HCd HBd HLd hch
  generalize wd.heap.size = s at *
  go_wp2_with (first
    | (refine wpList_load_mid rfl 41 (.tmp 3) rfl gC 0 rfl zs _ RG hu rfl (by rw [HZL.out]; exact info_cm) ?_)
    | fail)
  refine HCH.out.mono ?_
  rintro r w6 ⟨rfl, hb6⟩
  have HB6 := hid (HB3.out.later hb6)
  have HL6 := hid (HL3.out.trans (hb6.mono HL3.out.size))
  clear hb6 HCH RG HC3 HB3 HL3
  go_wp2_with fail
  refine (nil_fail w6 3).mono ?_
  rintro r w7 ⟨rfl, rfl⟩
  go_wp2_with fail
  refine (nil_err w6).mono ?_
  rintro r w8 ⟨rfl, rfl⟩
  have T8 := HB6.out.there 0 63 (by rw [HZL.out]; omega)
  have FIN := HB6.out.wholeT (ds := zs) rfl
  have O8 := HZO.out
  have hbF : Below w.heap.size w (w6.setCells w.heap.size 0 zs) := below_sets (Nat.le_refl _) zs 0 HL6.out
  go_wp2_with (first
    | (refine wpList_store_mid rfl 41 (.tmp 2) (.tmp 28) rfl w.heap.size 0 zs.toArray rfl (by rw [HZS.out]; rfl) (by simpa [HZL.out] using T8) (by simpa [HZL.out] using info_cm) O8 ?_)
    | fail)
  exact bodyPost_ret (v := .agg zs.toArray) (tok_results (q := 2) rfl _ _ w.heap.size zs _ rfl FIN hu rfl (by rw [HZL.out]; exact info_cm)) rfl ⟨rfl, hbF⟩
end Go.Proofs.YtnhcjadkbogioaaGreat
namespace Go.Proofs.YtnhcjadkbogioaaGreat
open Go Go.RowKit OctM
theorem rcsame_a (x y : Cm) (w : World) (h : okCm w x) (h' : okCm w y) (hm : x.n ≤ 65536) (c_kd : ¬ (x.kd = y.kd)) :
    Calls Tryz.prog 6 #[.agg (cmc x).toArray, .agg (cmc y).toArray] w fun e w' => e = .returned (.bool (decide (csm x y))) ∧ Below w.heap.size w w' := by
  have hue := Tryz.underlying38
  have hup := Tryz.underlying36
  have HEL := hid (cmE_len h.e8)
  have HPL := hid (cmP_len h.p8)
  have HEL' := hid (cmE_len h'.e8)
  have HPL' := hid (cmP_len h'.p8)
  have HHX := hid h
  have HHY := hid h'
  have B0 := (Blk.new w (cmc x) 41).alloc (.cells (cmc y).toArray 41)
  have B1 := Blk.new (w.alloc (.cells (cmc x).toArray 41)) (cmc y) 41
  rw [show (w.alloc (.cells (cmc x).toArray 41)).heap.size = w.heap.size + 1 by simp] at B1
  have hb : Below w.heap.size w ((w.alloc (.cells (cmc x).toArray 41)).alloc (.cells (cmc y).toArray 41)) := (below_a1C _ _).alloc (below_a1C _ _).size _
  have HB := hid hb
  have RE := B0.range 1 (cmE x) (cm_edit h.e8 h.p8)
  have RP := B0.range 35 (cmP x) (cm_patch h.e8 h.p8)
  have RE' := B1.range 1 (cmE y) (cm_edit h'.e8 h'.p8)
  have RP' := B1.range 35 (cmP y) (cm_patch h'.e8 h'.p8)
  obtain ⟨a0, a30, a31, a32, a33, a34, a61, a62⟩ := cm_at h.e8 h.p8
  obtain ⟨b0, b30, b31, b32, b33, b34, b61, b62⟩ := cm_at h'.e8 h'.p8
  have aq0 := B0.cell a0
  have aq30 := B0.cell a30
  have aq31 := B0.cell a31
  have aq32 := B0.cell a32
  have aq33 := B0.cell a33
  have aq34 := B0.cell a34
  have aq61 := B0.cell a61
  have aq62 := B0.cell a62
  have bq0 := B1.cell b0
  have bq30 := B1.cell b30
  have bq31 := B1.cell b31
  have bq32 := B1.cell b32
  have bq33 := B1.cell b33
  have bq34 := B1.cell b34
  have bq61 := B1.cell b61
  have bq62 := B1.cell b62
  have HB0 := hid B0
  have HB1 := hid B1
  have HP62 := hid a62
  have HQ62 := hid b62
  have hHT : decide (csm x y) = false := decide_eq_false (fun e => c_kd (e.1))
  rw [hHT]
  have t_kd : (x.kd == y.kd) = false := by simp only [beq_eq_false_iff_ne]; exact c_kd
  clear RE RE'
  obtain ⟨xc, hxc⟩ : ∃ c, c = cmc x := ⟨_, rfl⟩
  obtain ⟨yc, hyc⟩ : ∃ c, c = cmc y := ⟨_, rfl⟩
  obtain ⟨xe, hxe⟩ : ∃ c, c = cmE x := ⟨_, rfl⟩
  obtain ⟨xp, hxp⟩ : ∃ c, c = cmP x := ⟨_, rfl⟩
  obtain ⟨ye, hye⟩ : ∃ c, c = cmE y := ⟨_, rfl⟩
  obtain ⟨yp, hyp⟩ : ∃ c, c = cmP y := ⟨_, rfl⟩
  rw [← hxc, ← hyc] at HB HB0 HB1 RP RP' aq0 aq30 aq31 aq32 aq33 aq34 aq61 aq62 bq0 bq30 bq31 bq32 bq33 bq34 bq61 bq62 ⊢
  rw [← hxc] at HP62
  rw [← hyc] at HQ62
  rw [← hxe] at HEL
  rw [← hye] at HEL'
  rw [← hxp] at HPL RP
  rw [← hyp] at HPL' RP'
  clear hxc hyc hxe hxp hye hyp a0 a30 a31 a32 a33 a34 a61 a62 b0 b30 b31 b32 b33 b34 b61 b62 B0 B1 hb h h' hHT hm c_kd
  go_enter Tryz.func6, Tryz.ntmps6
  dsimp only [List.append]
  go_wp2_with (first
    | fail)
  go_ret
  exact ⟨rfl, HB.out⟩
theorem rcsame_b (x y : Cm) (w : World) (h : okCm w x) (h' : okCm w y) (hm : x.n ≤ 65536) (c_kd : x.kd = y.kd) (c_E : ¬ (ee x y)) :
    Calls Tryz.prog 6 #[.agg (cmc x).toArray, .agg (cmc y).toArray] w fun e w' => e = .returned (.bool (decide (csm x y))) ∧ Below w.heap.size w w' := by
  have hue := Tryz.underlying38
  have hup := Tryz.underlying36
  have HEL := hid (cmE_len h.e8)
  have HPL := hid (cmP_len h.p8)
  have HEL' := hid (cmE_len h'.e8)
  have HPL' := hid (cmP_len h'.p8)
  have HHX := hid h
  have HHY := hid h'
  have B0 := (Blk.new w (cmc x) 41).alloc (.cells (cmc y).toArray 41)
  have B1 := Blk.new (w.alloc (.cells (cmc x).toArray 41)) (cmc y) 41
  rw [show (w.alloc (.cells (cmc x).toArray 41)).heap.size = w.heap.size + 1 by simp] at B1
  have hb : Below w.heap.size w ((w.alloc (.cells (cmc x).toArray 41)).alloc (.cells (cmc y).toArray 41)) := (below_a1C _ _).alloc (below_a1C _ _).size _
  have HB := hid hb
  have RE := B0.range 1 (cmE x) (cm_edit h.e8 h.p8)
  have RP := B0.range 35 (cmP x) (cm_patch h.e8 h.p8)
  have RE' := B1.range 1 (cmE y) (cm_edit h'.e8 h'.p8)
  have RP' := B1.range 35 (cmP y) (cm_patch h'.e8 h'.p8)
  obtain ⟨a0, a30, a31, a32, a33, a34, a61, a62⟩ := cm_at h.e8 h.p8
  obtain ⟨b0, b30, b31, b32, b33, b34, b61, b62⟩ := cm_at h'.e8 h'.p8
  have aq0 := B0.cell a0
  have aq30 := B0.cell a30
  have aq31 := B0.cell a31
  have aq32 := B0.cell a32
  have aq33 := B0.cell a33
  have aq34 := B0.cell a34
  have aq61 := B0.cell a61
  have aq62 := B0.cell a62
  have bq0 := B1.cell b0
  have bq30 := B1.cell b30
  have bq31 := B1.cell b31
  have bq32 := B1.cell b32
  have bq33 := B1.cell b33
  have bq34 := B1.cell b34
  have bq61 := B1.cell b61
  have bq62 := B1.cell b62
  have HB0 := hid B0
  have HB1 := hid B1
  have HP62 := hid a62
  have HQ62 := hid b62
  have hHT : decide (csm x y) = false := decide_eq_false (fun e => c_E (e.2.1))
  rw [hHT]
  have t_kd : (x.kd == y.kd) = true := by simp only [beq_iff_eq]; exact c_kd
  have HEQE : Hid (∀ wx : World, (Op.equalIn 10000 38 (.agg (cmE x).toArray) (.agg (cmE y).toArray)).run Tryz.prog wx = .ok false wx) := Lib.hid (fun wx => by
    have e := eq_editC 9995 x.ek x.eid x.eg (x.em.toNat : Int) (x.el.toNat : Int) y.ek y.eid y.eg (y.em.toNat : Int) (y.el.toNat : Int) x.ef y.ef HHX.out.e8 HHY.out.e8 wx
    rwa [decide_eq_false (show ¬ (x.ek = y.ek ∧ x.eid = y.eid ∧ x.eg = y.eg ∧ ((x.em.toNat : Int) = (y.em.toNat : Int) ∧ (x.el.toNat : Int) = (y.el.toNat : Int) ∧ x.ef = y.ef)) from c_E)] at e)
  obtain ⟨xc, hxc⟩ : ∃ c, c = cmc x := ⟨_, rfl⟩
  obtain ⟨yc, hyc⟩ : ∃ c, c = cmc y := ⟨_, rfl⟩
  obtain ⟨xe, hxe⟩ : ∃ c, c = cmE x := ⟨_, rfl⟩
  obtain ⟨xp, hxp⟩ : ∃ c, c = cmP x := ⟨_, rfl⟩
  obtain ⟨ye, hye⟩ : ∃ c, c = cmE y := ⟨_, rfl⟩
  obtain ⟨yp, hyp⟩ : ∃ c, c = cmP y := ⟨_, rfl⟩
  rw [← hxc, ← hyc] at HB HB0 HB1 RP RP' RE RE' aq0 aq30 aq31 aq32 aq33 aq34 aq61 aq62 bq0 bq30 bq31 bq32 bq33 bq34 bq61 bq62 ⊢
  rw [← hxc] at HP62
  rw [← hyc] at HQ62
  rw [← hxe] at HEL HEQE RE
  rw [← hye] at HEL' HEQE RE'
  rw [← hxp] at HPL RP
  rw [← hyp] at HPL' RP'
  clear hxc hyc hxe hxp hye hyp a0 a30 a31 a32 a33 a34 a61 a62 b0 b30 b31 b32 b33 b34 b61 b62 B0 B1 hb h h' hHT hm c_kd c_E
  go_enter Tryz.func6, Tryz.ntmps6
  dsimp only [List.append]
  go_wp2_with (first
    | (refine wpList_load_g (by rfl) 38 (.tmp 11) rfl w.heap.size 1 rfl xe _ RE hue rfl (by rw [HEL.out]; exact info_edit) ?_; simp only [pq4])
    | (refine wpList_load_g (by rfl) 38 (.tmp 13) rfl (w.heap.size + 1) 1 rfl ye _ RE' hue rfl (by rw [HEL'.out]; exact info_edit) ?_; simp only [pq4])
    | (refine wpList_exec (by rfl) (.bool false) (exec_eql 38 38 (.tmp 12) (.tmp 14) rfl xe.toArray ye.toArray rfl rfl (by kernel_rfl) false (HEQE.out _)) ?_; simp only [pq4])
    | fail)
  go_ret
  exact ⟨rfl, HB.out⟩
theorem rcsame_c (x y : Cm) (w : World) (h : okCm w x) (h' : okCm w y) (hm : x.n ≤ 65536) (c_kd : x.kd = y.kd) (c_E : ee x y) (c_dv : ¬ (x.dv = y.dv)) :
    Calls Tryz.prog 6 #[.agg (cmc x).toArray, .agg (cmc y).toArray] w fun e w' => e = .returned (.bool (decide (csm x y))) ∧ Below w.heap.size w w' := by
  have hue := Tryz.underlying38
  have hup := Tryz.underlying36
  have HEL := hid (cmE_len h.e8)
  have HPL := hid (cmP_len h.p8)
  have HEL' := hid (cmE_len h'.e8)
  have HPL' := hid (cmP_len h'.p8)
  have HHX := hid h
  have HHY := hid h'
  have B0 := (Blk.new w (cmc x) 41).alloc (.cells (cmc y).toArray 41)
  have B1 := Blk.new (w.alloc (.cells (cmc x).toArray 41)) (cmc y) 41
  rw [show (w.alloc (.cells (cmc x).toArray 41)).heap.size = w.heap.size + 1 by simp] at B1
  have hb : Below w.heap.size w ((w.alloc (.cells (cmc x).toArray 41)).alloc (.cells (cmc y).toArray 41)) := (below_a1C _ _).alloc (below_a1C _ _).size _
  have HB := hid hb
  have RE := B0.range 1 (cmE x) (cm_edit h.e8 h.p8)
  have RP := B0.range 35 (cmP x) (cm_patch h.e8 h.p8)
  have RE' := B1.range 1 (cmE y) (cm_edit h'.e8 h'.p8)
  have RP' := B1.range 35 (cmP y) (cm_patch h'.e8 h'.p8)
  obtain ⟨a0, a30, a31, a32, a33, a34, a61, a62⟩ := cm_at h.e8 h.p8
  obtain ⟨b0, b30, b31, b32, b33, b34, b61, b62⟩ := cm_at h'.e8 h'.p8
  have aq0 := B0.cell a0
  have aq30 := B0.cell a30
  have aq31 := B0.cell a31
  have aq32 := B0.cell a32
  have aq33 := B0.cell a33
  have aq34 := B0.cell a34
  have aq61 := B0.cell a61
  have aq62 := B0.cell a62
  have bq0 := B1.cell b0
  have bq30 := B1.cell b30
  have bq31 := B1.cell b31
  have bq32 := B1.cell b32
  have bq33 := B1.cell b33
  have bq34 := B1.cell b34
  have bq61 := B1.cell b61
  have bq62 := B1.cell b62
  have HB0 := hid B0
  have HB1 := hid B1
  have HP62 := hid a62
  have HQ62 := hid b62
  have hHT : decide (csm x y) = false := decide_eq_false (fun e => c_dv (e.2.2.1))
  rw [hHT]
  have t_kd : (x.kd == y.kd) = true := by simp only [beq_iff_eq]; exact c_kd
  have HEQE : Hid (∀ wx : World, (Op.equalIn 10000 38 (.agg (cmE x).toArray) (.agg (cmE y).toArray)).run Tryz.prog wx = .ok true wx) := Lib.hid (fun wx => by
    have e := eq_editC 9995 x.ek x.eid x.eg (x.em.toNat : Int) (x.el.toNat : Int) y.ek y.eid y.eg (y.em.toNat : Int) (y.el.toNat : Int) x.ef y.ef HHX.out.e8 HHY.out.e8 wx
    rwa [decide_eq_true (show (x.ek = y.ek ∧ x.eid = y.eid ∧ x.eg = y.eg ∧ ((x.em.toNat : Int) = (y.em.toNat : Int) ∧ (x.el.toNat : Int) = (y.el.toNat : Int) ∧ x.ef = y.ef)) from c_E)] at e)
  have t_dv : (x.dv == y.dv) = false := by simp only [beq_eq_false_iff_ne]; exact c_dv
  obtain ⟨xc, hxc⟩ : ∃ c, c = cmc x := ⟨_, rfl⟩
  obtain ⟨yc, hyc⟩ : ∃ c, c = cmc y := ⟨_, rfl⟩
  obtain ⟨xe, hxe⟩ : ∃ c, c = cmE x := ⟨_, rfl⟩
  obtain ⟨xp, hxp⟩ : ∃ c, c = cmP x := ⟨_, rfl⟩
  obtain ⟨ye, hye⟩ : ∃ c, c = cmE y := ⟨_, rfl⟩
  obtain ⟨yp, hyp⟩ : ∃ c, c = cmP y := ⟨_, rfl⟩
  rw [← hxc, ← hyc] at HB HB0 HB1 RP RP' RE RE' aq0 aq30 aq31 aq32 aq33 aq34 aq61 aq62 bq0 bq30 bq31 bq32 bq33 bq34 bq61 bq62 ⊢
  rw [← hxc] at HP62
  rw [← hyc] at HQ62
  rw [← hxe] at HEL HEQE RE
  rw [← hye] at HEL' HEQE RE'
  rw [← hxp] at HPL RP
  rw [← hyp] at HPL' RP'
  clear hxc hyc hxe hxp hye hyp a0 a30 a31 a32 a33 a34 a61 a62 b0 b30 b31 b32 b33 b34 b61 b62 B0 B1 hb h h' hHT hm c_kd c_E c_dv
  go_enter Tryz.func6, Tryz.ntmps6
  dsimp only [List.append]
  go_wp2_with (first
    | (refine wpList_load_g (by rfl) 38 (.tmp 11) rfl w.heap.size 1 rfl xe _ RE hue rfl (by rw [HEL.out]; exact info_edit) ?_; simp only [pq4])
    | (refine wpList_load_g (by rfl) 38 (.tmp 13) rfl (w.heap.size + 1) 1 rfl ye _ RE' hue rfl (by rw [HEL'.out]; exact info_edit) ?_; simp only [pq4])
    | (refine wpList_exec (by rfl) (.bool true) (exec_eql 38 38 (.tmp 12) (.tmp 14) rfl xe.toArray ye.toArray rfl rfl (by kernel_rfl) true (HEQE.out _)) ?_; simp only [pq4])
    | fail)
  go_ret
  exact ⟨rfl, HB.out⟩
theorem rcsame_d (x y : Cm) (w : World) (h : okCm w x) (h' : okCm w y) (hm : x.n ≤ 65536) (c_kd : x.kd = y.kd) (c_E : ee x y) (c_dv : x.dv = y.dv) (c_rq : ¬ (x.rq = y.rq)) :
    Calls Tryz.prog 6 #[.agg (cmc x).toArray, .agg (cmc y).toArray] w fun e w' => e = .returned (.bool (decide (csm x y))) ∧ Below w.heap.size w w' := by
  have hue := Tryz.underlying38
  have hup := Tryz.underlying36
  have HEL := hid (cmE_len h.e8)
  have HPL := hid (cmP_len h.p8)
  have HEL' := hid (cmE_len h'.e8)
  have HPL' := hid (cmP_len h'.p8)
  have HHX := hid h
  have HHY := hid h'
  have B0 := (Blk.new w (cmc x) 41).alloc (.cells (cmc y).toArray 41)
  have B1 := Blk.new (w.alloc (.cells (cmc x).toArray 41)) (cmc y) 41
  rw [show (w.alloc (.cells (cmc x).toArray 41)).heap.size = w.heap.size + 1 by simp] at B1
  have hb : Below w.heap.size w ((w.alloc (.cells (cmc x).toArray 41)).alloc (.cells (cmc y).toArray 41)) := (below_a1C _ _).alloc (below_a1C _ _).size _
  have HB := hid hb
  have RE := B0.range 1 (cmE x) (cm_edit h.e8 h.p8)
  have RP := B0.range 35 (cmP x) (cm_patch h.e8 h.p8)
  have RE' := B1.range 1 (cmE y) (cm_edit h'.e8 h'.p8)
  have RP' := B1.range 35 (cmP y) (cm_patch h'.e8 h'.p8)
  obtain ⟨a0, a30, a31, a32, a33, a34, a61, a62⟩ := cm_at h.e8 h.p8
  obtain ⟨b0, b30, b31, b32, b33, b34, b61, b62⟩ := cm_at h'.e8 h'.p8
  have aq0 := B0.cell a0
  have aq30 := B0.cell a30
  have aq31 := B0.cell a31
  have aq32 := B0.cell a32
  have aq33 := B0.cell a33
  have aq34 := B0.cell a34
  have aq61 := B0.cell a61
  have aq62 := B0.cell a62
  have bq0 := B1.cell b0
  have bq30 := B1.cell b30
  have bq31 := B1.cell b31
  have bq32 := B1.cell b32
  have bq33 := B1.cell b33
  have bq34 := B1.cell b34
  have bq61 := B1.cell b61
  have bq62 := B1.cell b62
  have HB0 := hid B0
  have HB1 := hid B1
  have HP62 := hid a62
  have HQ62 := hid b62
  have hHT : decide (csm x y) = false := decide_eq_false (fun e => c_rq (e.2.2.2.1))
  rw [hHT]
  have t_kd : (x.kd == y.kd) = true := by simp only [beq_iff_eq]; exact c_kd
  have HEQE : Hid (∀ wx : World, (Op.equalIn 10000 38 (.agg (cmE x).toArray) (.agg (cmE y).toArray)).run Tryz.prog wx = .ok true wx) := Lib.hid (fun wx => by
    have e := eq_editC 9995 x.ek x.eid x.eg (x.em.toNat : Int) (x.el.toNat : Int) y.ek y.eid y.eg (y.em.toNat : Int) (y.el.toNat : Int) x.ef y.ef HHX.out.e8 HHY.out.e8 wx
    rwa [decide_eq_true (show (x.ek = y.ek ∧ x.eid = y.eid ∧ x.eg = y.eg ∧ ((x.em.toNat : Int) = (y.em.toNat : Int) ∧ (x.el.toNat : Int) = (y.el.toNat : Int) ∧ x.ef = y.ef)) from c_E)] at e)
  have t_dv : (x.dv == y.dv) = true := by simp only [beq_iff_eq]; exact c_dv
  have t_rq : (x.rq == y.rq) = false := by simp only [beq_eq_false_iff_ne]; exact c_rq
  obtain ⟨xc, hxc⟩ : ∃ c, c = cmc x := ⟨_, rfl⟩
  obtain ⟨yc, hyc⟩ : ∃ c, c = cmc y := ⟨_, rfl⟩
  obtain ⟨xe, hxe⟩ : ∃ c, c = cmE x := ⟨_, rfl⟩
  obtain ⟨xp, hxp⟩ : ∃ c, c = cmP x := ⟨_, rfl⟩
  obtain ⟨ye, hye⟩ : ∃ c, c = cmE y := ⟨_, rfl⟩
  obtain ⟨yp, hyp⟩ : ∃ c, c = cmP y := ⟨_, rfl⟩
  rw [← hxc, ← hyc] at HB HB0 HB1 RP RP' RE RE' aq0 aq30 aq31 aq32 aq33 aq34 aq61 aq62 bq0 bq30 bq31 bq32 bq33 bq34 bq61 bq62 ⊢
  rw [← hxc] at HP62
  rw [← hyc] at HQ62
  rw [← hxe] at HEL HEQE RE
  rw [← hye] at HEL' HEQE RE'
  rw [← hxp] at HPL RP
  rw [← hyp] at HPL' RP'
  clear hxc hyc hxe hxp hye hyp a0 a30 a31 a32 a33 a34 a61 a62 b0 b30 b31 b32 b33 b34 b61 b62 B0 B1 hb h h' hHT hm c_kd c_E c_dv c_rq
  go_enter Tryz.func6, Tryz.ntmps6
  dsimp only [List.append]
  go_wp2_with (first
    | (refine wpList_load_g (by rfl) 38 (.tmp 11) rfl w.heap.size 1 rfl xe _ RE hue rfl (by rw [HEL.out]; exact info_edit) ?_; simp only [pq4])
    | (refine wpList_load_g (by rfl) 38 (.tmp 13) rfl (w.heap.size + 1) 1 rfl ye _ RE' hue rfl (by rw [HEL'.out]; exact info_edit) ?_; simp only [pq4])
    | (refine wpList_exec (by rfl) (.bool true) (exec_eql 38 38 (.tmp 12) (.tmp 14) rfl xe.toArray ye.toArray rfl rfl (by kernel_rfl) true (HEQE.out _)) ?_; simp only [pq4])
    | fail)
  go_ret
  exact ⟨rfl, HB.out⟩
end Go.Proofs.YtnhcjadkbogioaaGreat
