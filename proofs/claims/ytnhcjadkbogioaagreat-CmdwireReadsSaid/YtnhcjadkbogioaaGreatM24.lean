/- Commands as they are read: the closure that takes an edit. -/
import Derived.Test.YtnhcjadkbogioaaGreatM23
import Derived.Laws.EntriesVeiled
import Derived.Test.YtnhcjadkbogioaaGreatM19
import Derived.Test.YtnhcjadkbogioaaGreatM18
import Derived.Test.YtnhcjadkbogioaaGreatM3
set_option maxRecDepth 100000
set_option maxHeartbeats 12800000
namespace Go.Proofs.YtnhcjadkbogioaaGreat
set_option linter.unusedVariables false
set_option linter.unusedSimpArgs false
open Go Go.RowKit OctM BitM
theorem cm_putE {x : Cm} (h1 : x.ef.length = 8) (h2 : x.pf.length = 8) (t : Int × Int × Int × Int × Int × List V3) (h3 : t.2.2.2.2.2.length = 8) (hm : ((u32 t.2.2.2.1).toNat : Int) = t.2.2.2.1) (hl : ((u32 t.2.2.2.2.1).toNat : Int) = t.2.2.2.2.1) :
    (cmc x).take 1 ++ ec6 t ++ (cmc x).drop (1 + (ec6 t).length) = cmc (edCm t x) := by
  obtain ⟨kd, ek, eid, eg, em, el, ef, dv, rq, id, bs, kp, pm, pl, pf, A, n, c, f, ms⟩ := x
  obtain ⟨k, i, gr, m, lb, ff⟩ := t
  simp only at hm hl h1 h2 h3
  obtain ⟨a1, a2, a3, a4, a5, a6, a7, a8, rfl⟩ := eight8 h1
  obtain ⟨b1, b2, b3, b4, b5, b6, b7, b8, rfl⟩ := eight8 h2
  obtain ⟨c1, c2, c3, c4, c5, c6, c7, c8, rfl⟩ := eight8 h3
  show _ = Value.int .i64 kd :: (ecells k i gr ((u32 m).toNat : Int) ((u32 lb).toNat : Int) [c1, c2, c3, c4, c5, c6, c7, c8] ++ _)
  rw [hm, hl]
  rfl
theorem cm_putP {x : Cm} (h1 : x.ef.length = 8) (h2 : x.pf.length = 8) (t : Int × Int × List V3) (h3 : t.2.2.length = 8) (hm : ((u32 t.1).toNat : Int) = t.1) (hl : ((u32 t.2.1).toNat : Int) = t.2.1) :
    (cmc x).take 35 ++ pc3 t ++ (cmc x).drop (35 + (pc3 t).length) = cmc (ptCm t x) := by
  obtain ⟨kd, ek, eid, eg, em, el, ef, dv, rq, id, bs, kp, pm, pl, pf, A, n, c, f, ms⟩ := x
  obtain ⟨m, lb, ff⟩ := t
  simp only at hm hl h1 h2 h3
  obtain ⟨a1, a2, a3, a4, a5, a6, a7, a8, rfl⟩ := eight8 h1
  obtain ⟨b1, b2, b3, b4, b5, b6, b7, b8, rfl⟩ := eight8 h2
  obtain ⟨c1, c2, c3, c4, c5, c6, c7, c8, rfl⟩ := eight8 h3
  unfold ptCm cmc cmP
  simp only
  rw [hm, hl]
  rfl
section
variable {w wx : World} {base g b2 b3 gC : Nat} {l : List UInt8} {x : Cm} {a : Nat} {e : Int}
theorem tk_edit (h : RC w base g b2 b3 gC l wx x a e) (ha : a ≤ l.length) (hm : l.length ≤ 4000) :
    Calls Tryz.prog 35 #[.pointer (some ⟨b2, 0, none⟩), .pointer (some ⟨b3, 0, none⟩)] wx fun r w' => r = .returned (.tuple #[]) ∧ RC w base g b2 b3 gC l w' (edCm (editOut l a e).1 x) (editOut l a e).2.1 (editOut l a e).2.2 ∧ Grown2 wx w' g gC := by
  have HR := h
  have HG := Grown2.refl wx g gC
  clear h
  obtain ⟨q1, hq1⟩ : ∃ q, q = editOut l a e := ⟨_, rfl⟩
  obtain ⟨cs, hcs⟩ : ∃ cs, cs = (ec6 q1.1).toArray := ⟨_, rfl⟩
  have h8 : q1.1.2.2.2.2.2.length = 8 := by rw [hq1]; exact editOut_len _ _ _
  have HCS : Hid (cs.size = 29) := hid (by rw [hcs]; exact ecells_len _ _ _ _ _ h8)
  have HON : Hid (cs.all (·.oneCell') = true) := hid (by rw [hcs]; exact all_oneCell_toArray (ecells_one _ _ _ _ _ _))
  have HU := hid (by rw [hq1]; exact editOut_u32 l a e : ((u32 q1.1.2.2.2.1).toNat : Int) = q1.1.2.2.2.1 ∧ ((u32 q1.1.2.2.2.2.1).toNat : Int) = q1.1.2.2.2.2.1)
  rw [← hq1]
  have EQ1 := hid hq1
  have HC := hid hcs
  have H8 := hid h8
  clear hq1 hcs h8
  go_enter Tryz.func35, Tryz.ntmps35
  refine wp_region_held (S := fun wz => wz.cell? ⟨b2, 0, none⟩ = some (.pointer (some ⟨g, 0, none⟩)) ∧ wz.cell? ⟨b3, 0, none⟩ = some (.pointer (some ⟨gC, 0, none⟩))) (by kernel_rfl) ?_
  show Go.wpAnyH Tryz.prog Region.Mode.any _ _ _ _ _ _ wx.drew
  have HR := HR.drew
  have HG := Grown2.trans HG (Grown2.none_ (Below.refl wx.heap.size wx).drew)
  have hS := HR.two
  generalize wx.drew = wd at HR HG hS ⊢
  refine takeH (i := 0) (oi := _) (v := (.pointer (some ⟨gC, 0, none⟩))) (fuel := 5) (some 2) rfl rfl (by kernel_rfl) (by kernel_rfl) (by kernel_rfl) (fun _ _ _ h => h) (.inl ⟨by rfl, fun wz hS => by simp [go_sem, hS.2]⟩) hS ?_
  simp only [pq4]
  refine takeH (i := 1) (oi := _) (v := (.pointer (some ⟨g, 0, none⟩))) (fuel := 4) (some 3) rfl rfl (by kernel_rfl) (by kernel_rfl) (by kernel_rfl) (fun _ _ _ h => h) (.inl ⟨by rfl, fun wz hS => by simp [go_sem, hS.1]⟩) hS ?_
  simp only [pq4]
  refine allH [2] 2 (fuel := 3) (by kernel_rfl) ?_
  refine callH (some 4) _ rfl rfl 36 #[.pointer (some ⟨g, 0, none⟩)] (by simp [go_sem]) (by rfl) ?_
  refine (HR.edit ha hm q1 EQ1.out cs HC.out).mono ?_
  rintro r w1 ⟨rfl, HR1, HG1⟩
  have HG := HG.trans HG1
  have HR := HR1
  clear HR1 HG1
  have hS := HR.two
  refine ⟨_, rfl, hS, ?_⟩
  simp only [pq4]
  refine takeH (i := 3) (oi := _) (v := (.pointer (some ⟨gC, 0, none⟩))) (fuel := 2) (some 5) rfl rfl (by kernel_rfl) (by kernel_rfl) (by kernel_rfl) (fun _ _ _ h => h) (.inl ⟨by rfl, fun wz hS => by simp [go_sem]⟩) hS ?_
  simp only [pq4]
  refine takeH (i := 4) (oi := _) (v := (.pointer (some ⟨gC, 1, none⟩))) (fuel := 1) (some 6) rfl rfl (by kernel_rfl) (by kernel_rfl) (by kernel_rfl) (fun _ _ _ h => h) (.inl ⟨by rfl, fun wz hS => by simp [go_sem]⟩) hS ?_
  simp only [pq4]
  have th := HR.c.there 1 29 (by rw [cmc_len HR.ok.e8 HR.ok.p8]; omega)
  obtain ⟨HR1, HG1⟩ := HR.puts (edCm q1.1 x) ⟨H8.out, HR.ok.p8, HR.ok.len, HR.ok.cap, HR.ok.max, HR.ok.see⟩ HR.n31 (HR.low rfl rfl) 1 cs.toList (by rw [Array.length_toList, HCS.out]; omega) (by rw [HC.out]; exact cm_putE HR.ok.e8 HR.ok.p8 q1.1 H8.out HU.out.1 HU.out.2)
  have hS := HR1.two
  refine allH [5] 5 (fuel := 0) (by kernel_rfl) ?_
  refine storeH _ rfl rfl (by rfl) 38 (.tmp 6) (.tmp 4) rfl gC 1 cs rfl rfl (by rw [HCS.out]; exact th) (by rw [HCS.out]; exact info_edit) HON.out ⟨hS, ?_⟩
  have HG := HG.trans HG1
  have HR := HR1
  clear HR1 HG1 th
  generalize w1.setCells gC 1 cs.toList = w2 at HR HG hS ⊢
  refine wpAnyH_done (by kernel_rfl) ?_ 0
  go_end0
  exact ⟨rfl, HR, HG⟩
end
section
variable {w wx : World} {base g b2 b3 gC : Nat} {l : List UInt8} {x : Cm} {a : Nat} {e : Int}
theorem tk_put (h : RC w base g b2 b3 gC l wx x a e) (ha : a ≤ l.length) (hm : l.length ≤ 4000) {b5 : Nat} (hB5 : Blk wx b5 [.func (.func 34) #[] #[.pointer (some ⟨b2, 0, none⟩), .pointer (some ⟨b3, 0, none⟩)]]) :
    Calls Tryz.prog 38 #[.pointer (some ⟨b5, 0, none⟩), .pointer (some ⟨b2, 0, none⟩), .pointer (some ⟨b3, 0, none⟩)] wx fun r w' => r = .returned (.tuple #[]) ∧ RC w base g b2 b3 gC l w' (ptCm (patOut l (abvOut l (abvOut l (abvOut l (numOut l a e 5).2.1 (numOut l a e 5).2.2 1099511627776).2.1 (abvOut l (numOut l a e 5).2.1 (numOut l a e 5).2.2 1099511627776).2.2 1073741823).2.1 (abvOut l (abvOut l (numOut l a e 5).2.1 (numOut l a e 5).2.2 1099511627776).2.1 (abvOut l (numOut l a e 5).2.1 (numOut l a e 5).2.2 1099511627776).2.2 1073741823).2.2 1099511627776).2.1 (abvOut l (abvOut l (abvOut l (numOut l a e 5).2.1 (numOut l a e 5).2.2 1099511627776).2.1 (abvOut l (numOut l a e 5).2.1 (numOut l a e 5).2.2 1099511627776).2.2 1073741823).2.1 (abvOut l (abvOut l (numOut l a e 5).2.1 (numOut l a e 5).2.2 1099511627776).2.1 (abvOut l (numOut l a e 5).2.1 (numOut l a e 5).2.2 1099511627776).2.2 1073741823).2.2 1099511627776).2.2).1 { x with dv := ((numOut l a e 5).1 : Int), rq := ((abvOut l (numOut l a e 5).2.1 (numOut l a e 5).2.2 1099511627776).1 : Int), id := ((abvOut l (abvOut l (numOut l a e 5).2.1 (numOut l a e 5).2.2 1099511627776).2.1 (abvOut l (numOut l a e 5).2.1 (numOut l a e 5).2.2 1099511627776).2.2 1073741823).1 : Int), bs := ((abvOut l (abvOut l (abvOut l (numOut l a e 5).2.1 (numOut l a e 5).2.2 1099511627776).2.1 (abvOut l (numOut l a e 5).2.1 (numOut l a e 5).2.2 1099511627776).2.2 1073741823).2.1 (abvOut l (abvOut l (numOut l a e 5).2.1 (numOut l a e 5).2.2 1099511627776).2.1 (abvOut l (numOut l a e 5).2.1 (numOut l a e 5).2.2 1099511627776).2.2 1073741823).2.2 1099511627776).1 : Int) }) (patOut l (abvOut l (abvOut l (abvOut l (numOut l a e 5).2.1 (numOut l a e 5).2.2 1099511627776).2.1 (abvOut l (numOut l a e 5).2.1 (numOut l a e 5).2.2 1099511627776).2.2 1073741823).2.1 (abvOut l (abvOut l (numOut l a e 5).2.1 (numOut l a e 5).2.2 1099511627776).2.1 (abvOut l (numOut l a e 5).2.1 (numOut l a e 5).2.2 1099511627776).2.2 1073741823).2.2 1099511627776).2.1 (abvOut l (abvOut l (abvOut l (numOut l a e 5).2.1 (numOut l a e 5).2.2 1099511627776).2.1 (abvOut l (numOut l a e 5).2.1 (numOut l a e 5).2.2 1099511627776).2.2 1073741823).2.1 (abvOut l (abvOut l (numOut l a e 5).2.1 (numOut l a e 5).2.2 1099511627776).2.1 (abvOut l (numOut l a e 5).2.1 (numOut l a e 5).2.2 1099511627776).2.2 1073741823).2.2 1099511627776).2.2).2.1 (patOut l (abvOut l (abvOut l (abvOut l (numOut l a e 5).2.1 (numOut l a e 5).2.2 1099511627776).2.1 (abvOut l (numOut l a e 5).2.1 (numOut l a e 5).2.2 1099511627776).2.2 1073741823).2.1 (abvOut l (abvOut l (numOut l a e 5).2.1 (numOut l a e 5).2.2 1099511627776).2.1 (abvOut l (numOut l a e 5).2.1 (numOut l a e 5).2.2 1099511627776).2.2 1073741823).2.2 1099511627776).2.1 (abvOut l (abvOut l (abvOut l (numOut l a e 5).2.1 (numOut l a e 5).2.2 1099511627776).2.1 (abvOut l (numOut l a e 5).2.1 (numOut l a e 5).2.2 1099511627776).2.2 1073741823).2.1 (abvOut l (abvOut l (numOut l a e 5).2.1 (numOut l a e 5).2.2 1099511627776).2.1 (abvOut l (numOut l a e 5).2.1 (numOut l a e 5).2.2 1099511627776).2.2 1073741823).2.2 1099511627776).2.2).2.2 ∧ Grown2 wx w' g gC := by
  have HR := h
  have HG := Grown2.refl wx g gC
  clear h
  have HQ := hid (fun wz (h : RC w base g b2 b3 gC l wz x a e) => tk_req h ha hm)
  obtain ⟨d0, hd0⟩ : ∃ q, q = numOut l a e 5 := ⟨_, rfl⟩
  obtain ⟨r0, hr0⟩ : ∃ q, q = abvOut l d0.2.1 d0.2.2 1099511627776 := ⟨_, rfl⟩
  rw [← hd0, ← hr0] at HQ
  rw [← hd0, ← hr0]
  have at0 : r0.2.1 ≤ l.length := by rw [hr0]; exact abvOut_at _ _ _ _ (by rw [hd0]; exact numOut_at _ _ _ _ ha)
  obtain ⟨x1, hx1⟩ : ∃ x1 : Cm, x1 = { x with dv := (d0.1 : Int), rq := (r0.1 : Int) } := ⟨_, rfl⟩
  rw [← hx1] at HQ
  obtain ⟨q1, hq1⟩ : ∃ q, q = abvOut l r0.2.1 r0.2.2 1073741823 := ⟨_, rfl⟩
  obtain ⟨k1, hk1⟩ : ∃ k : Int, k = (q1.1 : Int) := ⟨_, rfl⟩
  obtain ⟨q2, hq2⟩ : ∃ q, q = abvOut l q1.2.1 q1.2.2 1099511627776 := ⟨_, rfl⟩
  obtain ⟨k2, hk2⟩ : ∃ k : Int, k = (q2.1 : Int) := ⟨_, rfl⟩
  obtain ⟨q3, hq3⟩ : ∃ q, q = patOut l q2.2.1 q2.2.2 := ⟨_, rfl⟩
  obtain ⟨cs, hcs⟩ : ∃ cs, cs = (pc3 q3.1).toArray := ⟨_, rfl⟩
  have h8 : q3.1.2.2.length = 8 := by rw [hq3]; exact patOut_len _ _ _
  have HCS : Hid (cs.size = 26) := hid (by rw [hcs]; exact pcells_len _ _ h8)
  have HON : Hid (cs.all (·.oneCell') = true) := hid (by rw [hcs]; exact all_oneCell_toArray (pcells_one _ _ _))
  have HU := hid (by rw [hq3]; exact patOut_u32 l q2.2.1 q2.2.2 : ((u32 q3.1.1).toNat : Int) = q3.1.1 ∧ ((u32 q3.1.2.1).toNat : Int) = q3.1.2.1)
  have at1 : q1.2.1 ≤ l.length := by rw [hq1]; exact abvOut_at _ _ _ _ at0
  have at2 : q2.2.1 ≤ l.length := by rw [hq2]; exact abvOut_at _ _ _ _ at1
  rw [← hq1, ← hq2, ← hq3, ← hk1, ← hk2]
  have HX : Hid (ptCm q3.1 { x with dv := (d0.1 : Int), rq := (r0.1 : Int), id := k1, bs := k2 } = ptCm q3.1 { x1 with id := k1, bs := k2 }) := hid (by rw [hx1])
  rw [HX.out]
  have k5 := hB5.cell (j := 0) rfl
  have EQ3 := hid hq3
  have HC := hid hcs
  have H8 := hid h8
  have EQ1 := hid hq1
  have HK1 := hid hk1
  have EQ2 := hid hq2
  have HK2 := hid hk2
  clear hq1 hq2 hq3 hk1 hk2 hcs h8 hd0 hr0 hx1 hB5
  go_enter Tryz.func38, Tryz.ntmps38
  go_wp2_with fail
  refine (HQ.out wx HR).mono ?_
  rintro r w1 ⟨rfl, HR1, HG1⟩
  have HR := HR1
  have HG := HG.trans HG1
  clear HR1 HG1 k5 HQ
  go_wp2_with fail
  refine wp_region_held (S := fun wz => wz.cell? ⟨b2, 0, none⟩ = some (.pointer (some ⟨g, 0, none⟩)) ∧ wz.cell? ⟨b3, 0, none⟩ = some (.pointer (some ⟨gC, 0, none⟩))) (by kernel_rfl) ?_
  show Go.wpAnyH Tryz.prog Region.Mode.any _ _ _ _ _ _ w1.drew
  have HR := HR.drew
  have HG := Grown2.trans HG (Grown2.none_ (Below.refl w1.heap.size w1).drew)
  have hS := HR.two
  generalize w1.drew = wd at HR HG hS ⊢
  refine takeH (i := 0) (oi := _) (v := (.pointer (some ⟨gC, 0, none⟩))) (fuel := 11) (some 5) rfl rfl (by kernel_rfl) (by kernel_rfl) (by kernel_rfl) (fun _ _ _ h => h) (.inl ⟨by rfl, fun wz hS => by simp [go_sem, hS.2]⟩) hS ?_
  simp only [pq4]
  refine takeH (i := 1) (oi := _) (v := (.pointer (some ⟨gC, 0, none⟩))) (fuel := 10) (some 6) rfl rfl (by kernel_rfl) (by kernel_rfl) (by kernel_rfl) (fun _ _ _ h => h) (.inl ⟨by rfl, fun wz hS => by simp [go_sem, hS.2]⟩) hS ?_
  simp only [pq4]
  refine takeH (i := 2) (oi := _) (v := (.pointer (some ⟨g, 0, none⟩))) (fuel := 9) (some 7) rfl rfl (by kernel_rfl) (by kernel_rfl) (by kernel_rfl) (fun _ _ _ h => h) (.inl ⟨by rfl, fun wz hS => by simp [go_sem, hS.1]⟩) hS ?_
  simp only [pq4]
  refine takeH (i := 4) (oi := _) (v := (.pointer (some ⟨g, 0, none⟩))) (fuel := 8) (some 9) rfl rfl (by kernel_rfl) (by kernel_rfl) (by kernel_rfl) (fun _ _ _ h => h) (.inl ⟨by rfl, fun wz hS => by simp [go_sem, hS.1]⟩) hS ?_
  simp only [pq4]
  refine allH [3] 3 (fuel := 7) (by kernel_rfl) ?_
  refine callH (some 8) _ rfl rfl 16 #[.pointer (some ⟨g, 0, none⟩), .int .i64 1073741823] (by simp [go_sem]) (by rfl) ?_
  refine (HR.abv at0 hm 1073741823 q1 EQ1.out k1 HK1.out).mono ?_
  rintro r w2 ⟨rfl, HR1, HG1⟩
  have HG := HG.trans HG1
  have HR := HR1
  clear HR1 HG1
  have hS := HR.two
  refine ⟨_, rfl, hS, ?_⟩
  simp only [pq4]
  refine allH [5] 5 (fuel := 6) (by kernel_rfl) ?_
  refine callH (some 10) _ rfl rfl 16 #[.pointer (some ⟨g, 0, none⟩), .int .i64 1099511627776] (by simp [go_sem]) (by rfl) ?_
  refine (HR.abv at1 hm 1099511627776 q2 EQ2.out k2 HK2.out).mono ?_
  rintro r w3 ⟨rfl, HR1, HG1⟩
  have HG := HG.trans HG1
  have HR := HR1
  clear HR1 HG1
  have hS := HR.two
  refine ⟨_, rfl, hS, ?_⟩
  simp only [pq4]
  refine takeH (i := 6) (oi := _) (v := (.pointer (some ⟨gC, 0, none⟩))) (fuel := 5) (some 11) rfl rfl (by kernel_rfl) (by kernel_rfl) (by kernel_rfl) (fun _ _ _ h => h) (.inl ⟨by rfl, fun wz hS => by simp [go_sem]⟩) hS ?_
  simp only [pq4]
  refine takeH (i := 7) (oi := _) (v := (.pointer (some ⟨gC, 32, none⟩))) (fuel := 4) (some 12) rfl rfl (by kernel_rfl) (by kernel_rfl) (by kernel_rfl) (fun _ _ _ h => h) (.inl ⟨by rfl, fun wz hS => by simp [go_sem]⟩) hS ?_
  simp only [pq4]
  have cz := HR.c.cell (cm_at HR.ok.e8 HR.ok.p8).2.2.2.1
  have fz := HR.c.frozen 32
  obtain ⟨HR1, HG1⟩ := HR.put { x1 with id := k1 } ⟨HR.ok.e8, HR.ok.p8, HR.ok.len, HR.ok.cap, HR.ok.max, HR.ok.see⟩ (HR.n31) (HR.low rfl rfl) 32 (.int .i64 k1) (cm_sets HR.ok.e8 HR.ok.p8 k1 0#32).2.2.2.1
  have hS := HR1.two
  refine allH [8] 8 (fuel := 3) (by kernel_rfl) ?_
  refine store1H _ rfl rfl (by rfl) 3 (.tmp 12) (.tmp 8) rfl gC 32 _ (.int .i64 k1) rfl rfl (fun w => by kernel_rfl) (fun cs => by simp) rfl cz fz ⟨hS, ?_⟩
  have HG := HG.trans HG1
  have HR := HR1
  clear HR1 HG1 cz fz
  generalize w3.setCell ⟨gC, 32, none⟩ (.int .i64 k1) = w4 at HR HG hS ⊢
  refine takeH (i := 9) (oi := _) (v := (.pointer (some ⟨gC, 0, none⟩))) (fuel := 2) (some 13) rfl rfl (by kernel_rfl) (by kernel_rfl) (by kernel_rfl) (fun _ _ _ h => h) (.inl ⟨by rfl, fun wz hS => by simp [go_sem]⟩) hS ?_
  simp only [pq4]
  refine takeH (i := 10) (oi := _) (v := (.pointer (some ⟨gC, 33, none⟩))) (fuel := 1) (some 14) rfl rfl (by kernel_rfl) (by kernel_rfl) (by kernel_rfl) (fun _ _ _ h => h) (.inl ⟨by rfl, fun wz hS => by simp [go_sem]⟩) hS ?_
  simp only [pq4]
  have cz := HR.c.cell (cm_at HR.ok.e8 HR.ok.p8).2.2.2.2.1
  have fz := HR.c.frozen 33
  obtain ⟨HR1, HG1⟩ := HR.put { x1 with id := k1, bs := k2 } ⟨HR.ok.e8, HR.ok.p8, HR.ok.len, HR.ok.cap, HR.ok.max, HR.ok.see⟩ (HR.n31) (HR.low rfl rfl) 33 (.int .i64 k2) (cm_sets HR.ok.e8 HR.ok.p8 k2 0#32).2.2.2.2.1
  have hS := HR1.two
  refine allH [11] 11 (fuel := 0) (by kernel_rfl) ?_
  refine store1H _ rfl rfl (by rfl) 3 (.tmp 14) (.tmp 10) rfl gC 33 _ (.int .i64 k2) rfl rfl (fun w => by kernel_rfl) (fun cs => by simp) rfl cz fz ⟨hS, ?_⟩
  have HG := HG.trans HG1
  have HR := HR1
  clear HR1 HG1 cz fz
  generalize w4.setCell ⟨gC, 33, none⟩ (.int .i64 k2) = w5 at HR HG hS ⊢
  refine wpAnyH_done (by kernel_rfl) ?_ 0
  go_wp2_with fail
  refine wp_region_held (S := fun wz => wz.cell? ⟨b2, 0, none⟩ = some (.pointer (some ⟨g, 0, none⟩)) ∧ wz.cell? ⟨b3, 0, none⟩ = some (.pointer (some ⟨gC, 0, none⟩))) (by kernel_rfl) ?_
  show Go.wpAnyH Tryz.prog Region.Mode.any _ _ _ _ _ _ w5.drew
  have HR := HR.drew
  have HG := Grown2.trans HG (Grown2.none_ (Below.refl w5.heap.size w5).drew)
  have hS := HR.two
  generalize w5.drew = wd at HR HG hS ⊢
  refine takeH (i := 0) (oi := _) (v := (.pointer (some ⟨gC, 0, none⟩))) (fuel := 5) (some 15) rfl rfl (by kernel_rfl) (by kernel_rfl) (by kernel_rfl) (fun _ _ _ h => h) (.inl ⟨by rfl, fun wz hS => by simp [go_sem, hS.2]⟩) hS ?_
  simp only [pq4]
  refine takeH (i := 1) (oi := _) (v := (.pointer (some ⟨g, 0, none⟩))) (fuel := 4) (some 16) rfl rfl (by kernel_rfl) (by kernel_rfl) (by kernel_rfl) (fun _ _ _ h => h) (.inl ⟨by rfl, fun wz hS => by simp [go_sem, hS.1]⟩) hS ?_
  simp only [pq4]
  refine allH [2] 2 (fuel := 3) (by kernel_rfl) ?_
  refine callH (some 17) _ rfl rfl 39 #[.pointer (some ⟨g, 0, none⟩)] (by simp [go_sem]) (by rfl) ?_
  refine (HR.patch at2 hm q3 EQ3.out cs HC.out).mono ?_
  rintro r w6 ⟨rfl, HR1, HG1⟩
  have HG := HG.trans HG1
  have HR := HR1
  clear HR1 HG1
  have hS := HR.two
  refine ⟨_, rfl, hS, ?_⟩
  simp only [pq4]
  refine takeH (i := 3) (oi := _) (v := (.pointer (some ⟨gC, 0, none⟩))) (fuel := 2) (some 18) rfl rfl (by kernel_rfl) (by kernel_rfl) (by kernel_rfl) (fun _ _ _ h => h) (.inl ⟨by rfl, fun wz hS => by simp [go_sem]⟩) hS ?_
  simp only [pq4]
  refine takeH (i := 4) (oi := _) (v := (.pointer (some ⟨gC, 35, none⟩))) (fuel := 1) (some 19) rfl rfl (by kernel_rfl) (by kernel_rfl) (by kernel_rfl) (fun _ _ _ h => h) (.inl ⟨by rfl, fun wz hS => by simp [go_sem]⟩) hS ?_
  simp only [pq4]
  have th := HR.c.there 35 26 (by rw [cmc_len HR.ok.e8 HR.ok.p8]; omega)
  obtain ⟨HR1, HG1⟩ := HR.puts (ptCm q3.1 { x1 with id := k1, bs := k2 }) ⟨HR.ok.e8, H8.out, HR.ok.len, HR.ok.cap, HR.ok.max, HR.ok.see⟩ HR.n31 (HR.low rfl rfl) 35 cs.toList (by rw [Array.length_toList, HCS.out]; omega) (by rw [HC.out]; exact cm_putP HR.ok.e8 HR.ok.p8 q3.1 H8.out HU.out.1 HU.out.2)
  have hS := HR1.two
  refine allH [5] 5 (fuel := 0) (by kernel_rfl) ?_
  refine storeH _ rfl rfl (by rfl) 36 (.tmp 19) (.tmp 17) rfl gC 35 cs rfl rfl (by rw [HCS.out]; exact th) (by rw [HCS.out]; exact info_patch) HON.out ⟨hS, ?_⟩
  have HG := HG.trans HG1
  have HR := HR1
  clear HR1 HG1 th
  generalize w6.setCells gC 35 cs.toList = w7 at HR HG hS ⊢
  refine wpAnyH_done (by kernel_rfl) ?_ 0
  go_end0
  exact ⟨rfl, HR, HG⟩
end
section
variable {w wx : World} {base g b2 b3 gC : Nat} {l : List UInt8} {x : Cm} {a : Nat} {e : Int}
theorem filt31C (l : List UInt8) (a : Nat) (e : Int) : (filtOut l a e).1.length ≤ 31 := by
  have hk := nodes_len (l := l) (a := (mny l a e).2.1) (mny l a e).1
  have hm := mny_le l a e
  unfold filtOut
  split
  · simp
  · split
    · simp
    · split
      · omega
      · simp
theorem cm_setF {x : Cm} (h1 : x.ef.length = 8) (h2 : x.pf.length = 8) (AF : Option Addr) (nf cF : Nat) (f : List Nd) : (cmc x).set 61 (.slice AF nf cF) = cmc { x with A := AF, n := nf, c := cF, f := f } := by
  obtain ⟨kd, ek, eid, eg, em, el, ef, dv, rq, id, bs, kp, pm, pl, pf, A, n, c, f, ms⟩ := x
  obtain ⟨a1, a2, a3, a4, a5, a6, a7, a8, rfl⟩ := eight8 h1
  obtain ⟨b1, b2, b3, b4, b5, b6, b7, b8, rfl⟩ := eight8 h2
  rfl
theorem tk_sub (h : RC w base g b2 b3 gC l wx x a e) (ha : a ≤ l.length) (hm : l.length ≤ 4000) {b5 : Nat} (hB5 : Blk wx b5 [.func (.func 34) #[] #[.pointer (some ⟨b2, 0, none⟩), .pointer (some ⟨b3, 0, none⟩)]]) :
    Calls Tryz.prog 40 #[.pointer (some ⟨b5, 0, none⟩), .pointer (some ⟨b2, 0, none⟩), .pointer (some ⟨b3, 0, none⟩)] wx fun r w' => r = .returned (.tuple #[]) ∧ ∃ AF cF, RC w base g b2 b3 gC l w' { x with dv := ((numOut l a e 5).1 : Int), rq := ((abvOut l (numOut l a e 5).2.1 (numOut l a e 5).2.2 1099511627776).1 : Int), A := AF, n := (filtOut l (abvOut l (numOut l a e 5).2.1 (numOut l a e 5).2.2 1099511627776).2.1 (abvOut l (numOut l a e 5).2.1 (numOut l a e 5).2.2 1099511627776).2.2).1.length, c := cF, f := (filtOut l (abvOut l (numOut l a e 5).2.1 (numOut l a e 5).2.2 1099511627776).2.1 (abvOut l (numOut l a e 5).2.1 (numOut l a e 5).2.2 1099511627776).2.2).1, ms := BitVec.ofNat 32 (numOut l (filtOut l (abvOut l (numOut l a e 5).2.1 (numOut l a e 5).2.2 1099511627776).2.1 (abvOut l (numOut l a e 5).2.1 (numOut l a e 5).2.2 1099511627776).2.2).2.1 (filtOut l (abvOut l (numOut l a e 5).2.1 (numOut l a e 5).2.2 1099511627776).2.1 (abvOut l (numOut l a e 5).2.1 (numOut l a e 5).2.2 1099511627776).2.2).2.2 511).1 } (numOut l (filtOut l (abvOut l (numOut l a e 5).2.1 (numOut l a e 5).2.2 1099511627776).2.1 (abvOut l (numOut l a e 5).2.1 (numOut l a e 5).2.2 1099511627776).2.2).2.1 (filtOut l (abvOut l (numOut l a e 5).2.1 (numOut l a e 5).2.2 1099511627776).2.1 (abvOut l (numOut l a e 5).2.1 (numOut l a e 5).2.2 1099511627776).2.2).2.2 511).2.1 (numOut l (filtOut l (abvOut l (numOut l a e 5).2.1 (numOut l a e 5).2.2 1099511627776).2.1 (abvOut l (numOut l a e 5).2.1 (numOut l a e 5).2.2 1099511627776).2.2).2.1 (filtOut l (abvOut l (numOut l a e 5).2.1 (numOut l a e 5).2.2 1099511627776).2.1 (abvOut l (numOut l a e 5).2.1 (numOut l a e 5).2.2 1099511627776).2.2).2.2 511).2.2 ∧ Grown2 wx w' g gC := by
  have HR := h
  have HG := Grown2.refl wx g gC
  clear h
  have HQ := hid (fun wz (h : RC w base g b2 b3 gC l wz x a e) => tk_req h ha hm)
  obtain ⟨d0, hd0⟩ : ∃ q, q = numOut l a e 5 := ⟨_, rfl⟩
  obtain ⟨r0, hr0⟩ : ∃ q, q = abvOut l d0.2.1 d0.2.2 1099511627776 := ⟨_, rfl⟩
  rw [← hd0, ← hr0] at HQ
  rw [← hd0, ← hr0]
  have at0 : r0.2.1 ≤ l.length := by rw [hr0]; exact abvOut_at _ _ _ _ (by rw [hd0]; exact numOut_at _ _ _ _ ha)
  obtain ⟨x1, hx1⟩ : ∃ x1 : Cm, x1 = { x with dv := (d0.1 : Int), rq := (r0.1 : Int) } := ⟨_, rfl⟩
  rw [← hx1] at HQ
  obtain ⟨q1, hq1⟩ : ∃ q, q = filtOut l r0.2.1 r0.2.2 := ⟨_, rfl⟩
  obtain ⟨nf, hnf⟩ : ∃ n, n = q1.1.length := ⟨_, rfl⟩
  obtain ⟨q2, hq2⟩ : ∃ q, q = numOut l q1.2.1 q1.2.2 511 := ⟨_, rfl⟩
  obtain ⟨k2, hk2⟩ : ∃ k : Int, k = (q2.1 : Int) := ⟨_, rfl⟩
  have at1 : q1.2.1 ≤ l.length := by rw [hq1]; exact filt_at at0
  have hn31 : nf ≤ 31 := by rw [hnf, hq1]; exact filt31C _ _ _
  have hk2le : k2 ≤ 511 := by rw [hk2, hq2]; exact numOut_le _ _ _ _ (by omega)
  have hk2ge : 0 ≤ k2 := by rw [hk2]; omega
  obtain ⟨ms, hms⟩ : ∃ m, m = BitVec.ofNat 32 q2.1 := ⟨_, rfl⟩
  have hmsk : (ms.toNat : Int) = k2 := by rw [hms, hk2, BitVec.toNat_ofNat, Nat.mod_eq_of_lt (by omega)]
  rw [← hq1, ← hq2, ← hms]
  have k5 := hB5.cell (j := 0) rfl
  have HX1 := hid hx1
  have HMS := hid hmsk
  have EQ1 := hid hq1
  have HNF := hid hnf
  have HN31 := hid hn31
  have EQ2 := hid hq2
  have HK2 := hid hk2
  clear hq1 hq2 hk2 hd0 hr0 hx1 hB5 hnf hms hmsk hn31
  go_enter Tryz.func40, Tryz.ntmps40
  go_wp2_with fail
  refine (HQ.out wx HR).mono ?_
  rintro r w1 ⟨rfl, HR1, HG1⟩
  have HR := HR1
  have HG := HG.trans HG1
  clear HR1 HG1 k5 HQ
  go_wp2_with fail
  refine wp_region_held (S := fun wz => wz.cell? ⟨b2, 0, none⟩ = some (.pointer (some ⟨g, 0, none⟩)) ∧ wz.cell? ⟨b3, 0, none⟩ = some (.pointer (some ⟨gC, 0, none⟩))) (by kernel_rfl) ?_
  show Go.wpAnyH Tryz.prog Region.Mode.any _ _ _ _ _ _ w1.drew
  have HR := HR.drew
  have HG := Grown2.trans HG (Grown2.none_ (Below.refl w1.heap.size w1).drew)
  have hS := HR.two
  generalize w1.drew = wd at HR HG hS ⊢
  refine takeH (i := 0) (oi := _) (v := (.pointer (some ⟨gC, 0, none⟩))) (fuel := 5) (some 5) rfl rfl (by kernel_rfl) (by kernel_rfl) (by kernel_rfl) (fun _ _ _ h => h) (.inl ⟨by rfl, fun wz hS => by simp [go_sem, hS.2]⟩) hS ?_
  simp only [pq4]
  refine takeH (i := 1) (oi := _) (v := (.pointer (some ⟨g, 0, none⟩))) (fuel := 4) (some 6) rfl rfl (by kernel_rfl) (by kernel_rfl) (by kernel_rfl) (fun _ _ _ h => h) (.inl ⟨by rfl, fun wz hS => by simp [go_sem, hS.1]⟩) hS ?_
  simp only [pq4]
  refine allH [2] 2 (fuel := 3) (by kernel_rfl) ?_
  refine callH (some 7) _ rfl rfl 41 #[.pointer (some ⟨g, 0, none⟩)] (by simp [go_sem]) (by rfl) ?_
  refine (HR.filt at0 hm q1 EQ1.out nf HNF.out).mono ?_
  rintro r w2 ⟨AF, cF, rfl, HOK, HF1, HR1, HG1⟩
  have HG := HG.trans HG1
  have HR := HR1
  clear HR1 HG1
  have hS := HR.two
  refine ⟨_, rfl, hS, ?_⟩
  simp only [pq4]
  refine takeH (i := 3) (oi := _) (v := (.pointer (some ⟨gC, 0, none⟩))) (fuel := 2) (some 8) rfl rfl (by kernel_rfl) (by kernel_rfl) (by kernel_rfl) (fun _ _ _ h => h) (.inl ⟨by rfl, fun wz hS => by simp [go_sem]⟩) hS ?_
  simp only [pq4]
  refine takeH (i := 4) (oi := _) (v := (.pointer (some ⟨gC, 61, none⟩))) (fuel := 1) (some 9) rfl rfl (by kernel_rfl) (by kernel_rfl) (by kernel_rfl) (fun _ _ _ h => h) (.inl ⟨by rfl, fun wz hS => by simp [go_sem]⟩) hS ?_
  simp only [pq4]
  have cz := HR.c.cell (cm_at HR.ok.e8 HR.ok.p8).2.2.2.2.2.2.1
  have fz := HR.c.frozen 61
  obtain ⟨HR1, HG1⟩ := HR.put { x1 with A := AF, n := nf, c := cF, f := q1.1 } HOK (HN31.out) (HF1) 61 (.slice AF nf cF) (cm_setF HR.ok.e8 HR.ok.p8 AF nf cF q1.1)
  have hS := HR1.two
  refine allH [5] 5 (fuel := 0) (by kernel_rfl) ?_
  refine store1H _ rfl rfl (by rfl) 39 (.tmp 9) (.tmp 7) rfl gC 61 _ (.slice AF nf cF) rfl rfl (fun w => by kernel_rfl) (fun cs => by simp) rfl cz fz ⟨hS, ?_⟩
  have HG := HG.trans HG1
  have HR := HR1
  clear HR1 HG1 cz fz
  generalize w2.setCell ⟨gC, 61, none⟩ (.slice AF nf cF) = w3 at HR HG hS ⊢
  refine wpAnyH_done (by kernel_rfl) ?_ 0
  go_wp2_with fail
  refine wp_region_held (S := fun wz => wz.cell? ⟨b2, 0, none⟩ = some (.pointer (some ⟨g, 0, none⟩)) ∧ wz.cell? ⟨b3, 0, none⟩ = some (.pointer (some ⟨gC, 0, none⟩))) (by kernel_rfl) ?_
  show Go.wpAnyH Tryz.prog Region.Mode.any _ _ _ _ _ _ w3.drew
  have HR := HR.drew
  have HG := Grown2.trans HG (Grown2.none_ (Below.refl w3.heap.size w3).drew)
  have hS := HR.two
  generalize w3.drew = wd at HR HG hS ⊢
  refine takeH (i := 0) (oi := _) (v := (.pointer (some ⟨gC, 0, none⟩))) (fuel := 6) (some 10) rfl rfl (by kernel_rfl) (by kernel_rfl) (by kernel_rfl) (fun _ _ _ h => h) (.inl ⟨by rfl, fun wz hS => by simp [go_sem, hS.2]⟩) hS ?_
  simp only [pq4]
  refine takeH (i := 1) (oi := _) (v := (.pointer (some ⟨g, 0, none⟩))) (fuel := 5) (some 11) rfl rfl (by kernel_rfl) (by kernel_rfl) (by kernel_rfl) (fun _ _ _ h => h) (.inl ⟨by rfl, fun wz hS => by simp [go_sem, hS.1]⟩) hS ?_
  simp only [pq4]
  refine allH [2] 2 (fuel := 4) (by kernel_rfl) ?_
  refine callH (some 12) _ rfl rfl 33 #[.pointer (some ⟨g, 0, none⟩), .int .i64 511] (by simp [go_sem]) (by rfl) ?_
  refine (HR.num at1 hm 511 q2 EQ2.out k2 HK2.out).mono ?_
  rintro r w4 ⟨rfl, HR1, HG1⟩
  have HG := HG.trans HG1
  have HR := HR1
  clear HR1 HG1
  have hS := HR.two
  refine ⟨_, rfl, hS, ?_⟩
  simp only [pq4]
  have hcv : IntKind.u32.wrap k2 = k2 := by
    simp only [IntKind.wrap, IntKind.signed, IntKind.bits, Bool.false_and, Bool.false_eq_true, if_false]
    omega
  refine takeH (i := 3) (oi := _) (v := (.int .u32 k2)) (fuel := 3) (some 13) rfl rfl (by kernel_rfl) (by kernel_rfl) (by kernel_rfl) (fun _ _ _ h => h) (.inl ⟨by rfl, fun wz hS => by simp [go_sem, hcv]⟩) hS ?_
  simp only [pq4]
  refine takeH (i := 4) (oi := _) (v := (.pointer (some ⟨gC, 0, none⟩))) (fuel := 2) (some 14) rfl rfl (by kernel_rfl) (by kernel_rfl) (by kernel_rfl) (fun _ _ _ h => h) (.inl ⟨by rfl, fun wz hS => by simp [go_sem]⟩) hS ?_
  simp only [pq4]
  refine takeH (i := 5) (oi := _) (v := (.pointer (some ⟨gC, 62, none⟩))) (fuel := 1) (some 15) rfl rfl (by kernel_rfl) (by kernel_rfl) (by kernel_rfl) (fun _ _ _ h => h) (.inl ⟨by rfl, fun wz hS => by simp [go_sem]⟩) hS ?_
  simp only [pq4]
  obtain ⟨mz, hmz⟩ : ∃ z : Int, z = (ms.toNat : Int) := ⟨_, rfl⟩
  rw [show k2 = mz by rw [hmz]; exact HMS.out.symm]
  have cz := HR.c.cell (cm_at HR.ok.e8 HR.ok.p8).2.2.2.2.2.2.2
  have fz := HR.c.frozen 62
  obtain ⟨HR1, HG1⟩ := HR.put { x1 with A := AF, n := nf, c := cF, f := q1.1, ms := ms } ⟨HR.ok.e8, HR.ok.p8, HR.ok.len, HR.ok.cap, HR.ok.max, HR.ok.see⟩ (HR.n31) (HR.low rfl rfl) 62 (.int .u32 mz) (by rw [hmz]; exact (cm_sets HR.ok.e8 HR.ok.p8 0 ms).2.2.2.2.2.2.2)
  have hS := HR1.two
  refine allH [6] 6 (fuel := 0) (by kernel_rfl) ?_
  refine store1H _ rfl rfl (by rfl) 31 (.tmp 15) (.tmp 13) rfl gC 62 _ (.int .u32 mz) rfl rfl (fun w => by kernel_rfl) (fun cs => by simp) rfl cz fz ⟨hS, ?_⟩
  have HG := HG.trans HG1
  have HR := HR1
  clear HR1 HG1 cz fz
  generalize w4.setCell ⟨gC, 62, none⟩ (.int .u32 mz) = w5 at HR HG hS ⊢
  refine wpAnyH_done (by kernel_rfl) ?_ 0
  go_end0
  rw [← HNF.out]
  have ex1 := HX1.out
  subst ex1
  exact ⟨rfl, AF, cF, HR, HG⟩
end
section
variable {P : Program} {k t e : TypeId} {w : World} {b N : Nat} {mm : IM} {ops : Array Oper} {rest : List Oper} {o : Oper} {a : Act} {Q : Exit → Act → World → Prop}
theorem wpList_insI (hg : o.guard = none) (m v : Operand) (z : Int) (hop : o.op = Op.insert t m (.const (.int .i64 z)) v) (hI : MapI P k w b N mm) (hk : P.underlying k = some (.int .i64)) (ht : P.underlying t = some (.map k e)) (hn : N < maxLen) (hm : a.eval m = .map (some b)) (hz : (Lit.int .i64 z).wf = true)
    (val : Value) (hv : a.eval v = val) (hK : ∀ w', MapI P k w' b (N + 1) (mput mm z val) → w.grownBy w' (some b) → wpList P ops Q rest (a.put o.dst undef) w') : wpList P ops Q (o :: rest) a w := by
  refine wpList_plain hg fun K' hK' => ?_
  obtain ⟨w', hrun, r1, r2⟩ := hI.store hk ht hn hz val
  unfold Oper.wp
  have hx : a.eval (.const (.int .i64 z)) = .int .i64 z := rfl
  simp [execOp, hop, hm, hx, hv, hrun, Result.andThen]
  exact hK' _ _ (hK w' r1 r2)
theorem exec_lookI (m x : Operand) (ho : o.op = .lookup t m x true) (z : Int) (hm : a.eval m = .map (some b)) (hx : a.eval x = .int .i64 z) {v : Value} (hr : (Instr.lookup t (.map (some b)) (.int .i64 z) true).run P w = .ok v w) : (execOp a.eval o).run P w = .ok (.value v) w := by
  unfold execOp
  simp only [ho, hm, hx, Sem.run_bind, hr, Result.andThen_ok, Sem.run_pure]
theorem wpList_mkI (hg : o.guard = none) (r : Option Operand) (hop : o.op = Op.makeMap t none) (hK : ∀ w', MapI P k w' w.heap.size 0 [] → Below w.heap.size w w' → wpList P ops Q rest (a.put o.dst (.map (some w.heap.size))) w') : wpList P ops Q (o :: rest) a w := by
  refine wpList_plain hg fun K' hK' => ?_
  unfold Oper.wp
  simp [execOp, hop, Instr.makeMap, Result.andThen]
  exact hK' _ _ (hK (w.alloc (.map #[] 0)) (MapI.new P k w) (below_a1C w _))
theorem below_rowI {w' : World} {B : Nat} (hg : w.grownBy w' (some b)) (hb : B ≤ b) (hz : B ≤ w.heap.size) : Below B w w' := ⟨hg.os, hg.tape, hg.output, hg.size, fun k hk => hg.block k (by omega) (fun e => by injection e with e; omega)⟩
end
def fnR (s : Nat) : Value := .func (.func 34) #[] #[.pointer (some ⟨s, 0, none⟩), .pointer (some ⟨s + 1, 0, none⟩)]
def fnE (s : Nat) : Value := .func (.func 35) #[] #[.pointer (some ⟨s, 0, none⟩), .pointer (some ⟨s + 1, 0, none⟩)]
def fnT (s : Nat) : Value := .func (.func 37) #[] #[.pointer (some ⟨s, 0, none⟩), .pointer (some ⟨s + 1, 0, none⟩)]
def fnP (s : Nat) : Value := .func (.func 38) #[] #[.pointer (some ⟨s + 2, 0, none⟩), .pointer (some ⟨s, 0, none⟩), .pointer (some ⟨s + 1, 0, none⟩)]
def fnS (s : Nat) : Value := .func (.func 40) #[] #[.pointer (some ⟨s + 2, 0, none⟩), .pointer (some ⟨s, 0, none⟩), .pointer (some ⟨s + 1, 0, none⟩)]
def tkm (s : Nat) : IM := mput (mput (mput (mput (mput [] 1 (fnE s)) 5 (fnT s)) 2 (fnP s)) 3 (fnS s)) 4 (fnR s)
theorem tkm_get (s : Nat) : mget (tkm s) 0 = none ∧ mget (tkm s) 1 = some (fnE s) ∧ mget (tkm s) 2 = some (fnP s) ∧ mget (tkm s) 3 = some (fnS s) ∧ mget (tkm s) 4 = some (fnR s) ∧ mget (tkm s) 5 = some (fnT s) := ⟨rfl, rfl, rfl, rfl, rfl, rfl⟩
theorem zero_fn (w : World) : (zeroValue 1).run Tryz.prog w = .ok .nilFunc w := by kernel_rfl
theorem tk_new (g gC : Nat) (w : World) :
    Calls Tryz.prog 17 #[.pointer (some ⟨g, 0, none⟩), .pointer (some ⟨gC, 0, none⟩)] w fun r w' => r = .returned (.map (some (w.heap.size + 3))) ∧ (Blk w' w.heap.size [.pointer (some ⟨g, 0, none⟩)] ∧ Blk w' (w.heap.size + 1) [.pointer (some ⟨gC, 0, none⟩)] ∧ Blk w' (w.heap.size + 2) [fnR w.heap.size]) ∧ MapI Tryz.prog 3 w' (w.heap.size + 3) 5 (tkm w.heap.size) ∧ Below w.heap.size w w' := by
  have hki := Tryz.underlying3
  have htm := Tryz.underlying57
  obtain ⟨W, hW⟩ : ∃ W, W = ((w.alloc (.cells #[.pointer (some ⟨g, 0, none⟩)] 24)).alloc (.cells #[.pointer (some ⟨gC, 0, none⟩)] 59)).alloc (.cells #[.func (.func 34) #[] #[.pointer (some ⟨w.heap.size, 0, none⟩), .pointer (some ⟨w.heap.size + 1, 0, none⟩)]] 1) := ⟨_, rfl⟩
  have hz : W.heap.size = w.heap.size + 3 := by rw [hW]; simp
  have b1 := below_a1C w (.cells #[.pointer (some ⟨g, 0, none⟩)] 24)
  have b2 := b1.alloc b1.size (.cells #[.pointer (some ⟨gC, 0, none⟩)] 59)
  have hb : Below w.heap.size w W := by rw [hW]; exact b2.alloc b2.size _
  have hB1 : Blk W w.heap.size [.pointer (some ⟨g, 0, none⟩)] := by rw [hW]; exact ((Blk.new w [.pointer (some ⟨g, 0, none⟩)] _).alloc _).alloc _
  have hB2 : Blk W (w.heap.size + 1) [.pointer (some ⟨gC, 0, none⟩)] := by
    have h := (Blk.new (w.alloc (.cells #[.pointer (some ⟨g, 0, none⟩)] 24)) [.pointer (some ⟨gC, 0, none⟩)] 59)
    rw [show (w.alloc (.cells #[.pointer (some ⟨g, 0, none⟩)] 24)).heap.size = w.heap.size + 1 by simp] at h
    rw [hW]; exact h.alloc _
  have hB3 : Blk W (w.heap.size + 2) [fnR w.heap.size] := by
    have h := (Blk.new ((w.alloc (.cells #[.pointer (some ⟨g, 0, none⟩)] 24)).alloc (.cells #[.pointer (some ⟨gC, 0, none⟩)] 59)) [fnR w.heap.size] 1)
    rw [show ((w.alloc (.cells #[.pointer (some ⟨g, 0, none⟩)] 24)).alloc (.cells #[.pointer (some ⟨gC, 0, none⟩)] 59)).heap.size = w.heap.size + 2 by simp] at h
    rw [hW]; exact h
  obtain ⟨s, hs⟩ : ∃ s, s = w.heap.size := ⟨_, rfl⟩
  have HW := hid hW
  have HZ := hid hz
  have HB := hid hb
  have HB1 := hid hB1
  have HB2 := hid hB2
  have HB3 := hid hB3
  clear hW hz hb hB1 hB2 hB3 b1 b2 hs
  go_enter Tryz.func17, Tryz.ntmps17
  go_wp2_with (first
    | (rw [← HW.out]
       refine wpList_mkI (k := 3) rfl none rfl (fun w1 HM1 HBM => ?_)
       rw [HZ.out] at HM1 ⊢
       have HM := HM1
       have BW := hid (HB.out.trans (HBM.mono HB.out.size))
       have B1 := hid (HB1.out.later HBM)
       have B2 := hid (HB2.out.later HBM)
       have B3 := hid (HB3.out.later HBM)
       have kf := B3.out.cell (j := 0) rfl
       clear HM1 HBM HB HB1 HB2 HB3 HW)
    | (refine wpList_insI rfl (.tmp 7) (.tmp 8) 1 rfl HM hki htm (by simp [maxLen]) rfl rfl (fnE w.heap.size) rfl ?_
       intro w' HM' HG'
       have BW := hid (BW.out.trans (below_rowI HG' (by omega) BW.out.size))
       have B1 := hid (B1.out.kept HG' (by intro e; injection e with e; omega))
       have B2 := hid (B2.out.kept HG' (by intro e; injection e with e; omega))
       have B3 := hid (B3.out.kept HG' (by intro e; injection e with e; omega))
       have HM := HM'
       have kf := B3.out.cell (j := 0) rfl
       clear HM' HG')
    | (refine wpList_insI rfl (.tmp 7) (.tmp 9) 5 rfl HM hki htm (by simp [maxLen]) rfl rfl (fnT w.heap.size) rfl ?_
       intro w' HM' HG'
       have BW := hid (BW.out.trans (below_rowI HG' (by omega) BW.out.size))
       have B1 := hid (B1.out.kept HG' (by intro e; injection e with e; omega))
       have B2 := hid (B2.out.kept HG' (by intro e; injection e with e; omega))
       have B3 := hid (B3.out.kept HG' (by intro e; injection e with e; omega))
       have HM := HM'
       have kf := B3.out.cell (j := 0) rfl
       clear HM' HG')
    | (refine wpList_insI rfl (.tmp 7) (.tmp 10) 2 rfl HM hki htm (by simp [maxLen]) rfl rfl (fnP w.heap.size) rfl ?_
       intro w' HM' HG'
       have BW := hid (BW.out.trans (below_rowI HG' (by omega) BW.out.size))
       have B1 := hid (B1.out.kept HG' (by intro e; injection e with e; omega))
       have B2 := hid (B2.out.kept HG' (by intro e; injection e with e; omega))
       have B3 := hid (B3.out.kept HG' (by intro e; injection e with e; omega))
       have HM := HM'
       have kf := B3.out.cell (j := 0) rfl
       clear HM' HG')
    | (refine wpList_insI rfl (.tmp 7) (.tmp 11) 3 rfl HM hki htm (by simp [maxLen]) rfl rfl (fnS w.heap.size) rfl ?_
       intro w' HM' HG'
       have BW := hid (BW.out.trans (below_rowI HG' (by omega) BW.out.size))
       have B1 := hid (B1.out.kept HG' (by intro e; injection e with e; omega))
       have B2 := hid (B2.out.kept HG' (by intro e; injection e with e; omega))
       have B3 := hid (B3.out.kept HG' (by intro e; injection e with e; omega))
       have HM := HM'
       have kf := B3.out.cell (j := 0) rfl
       clear HM' HG')
    | (refine wpList_insI rfl (.tmp 7) (.tmp 12) 4 rfl HM hki htm (by simp [maxLen]) rfl rfl (fnR w.heap.size) rfl ?_
       intro w' HM' HG'
       have BW := hid (BW.out.trans (below_rowI HG' (by omega) BW.out.size))
       have B1 := hid (B1.out.kept HG' (by intro e; injection e with e; omega))
       have B2 := hid (B2.out.kept HG' (by intro e; injection e with e; omega))
       have B3 := hid (B3.out.kept HG' (by intro e; injection e with e; omega))
       have HM := HM'
       have kf := B3.out.cell (j := 0) rfl
       clear HM' HG')
    | fail)
  go_ret
  exact ⟨rfl, ⟨B1.out, B2.out, B3.out⟩, HM, BW.out⟩
theorem ro_cok {l : List UInt8} {a : Nat} {e : Int} (h : (roRaw l a e).2.2 = 0) : cok (roRaw l a e).1 := by
  have h1 := (cm_only (l := l) (a := a) (e := e) h).2.1
  have h2 : (cmOut l a e).1 = (roRaw l a e).1 := by unfold cmOut; simp only; rw [if_pos h]
  rwa [h2] at h1
def CmRead (w : World) (base g : Nat) (l : List UInt8) (q : Cm × Nat × Int) : Ending → World → Prop := fun r w' => (∃ x : Cm, r = .returned (.agg (cmc x).toArray) ∧ okCm w' x ∧ cab x = q.1 ∧ x.n ≤ 31 ∧ lowCm w.heap.size x) ∧ Rd w' base g l q.2.1 q.2.2 ∧ w.grownBy w' (some g)
section
variable {w wz : World} {base g b2 b3 b5 gC : Nat} {l : List UInt8} {a : Nat} {e : Int}
theorem clo_1 (ha : a ≤ l.length) (hm : l.length ≤ 4000) (hk : (roA l a e).1 = 1) (h : RC w base g b2 b3 gC l wz { zcm with kd := 1 } (roA l a e).2.1 (roA l a e).2.2) (hB : Blk wz b5 [.func (.func 34) #[] #[.pointer (some ⟨b2, 0, none⟩), .pointer (some ⟨b3, 0, none⟩)]]) :
    Calls Tryz.prog 35 #[.pointer (some ⟨b2, 0, none⟩), .pointer (some ⟨b3, 0, none⟩)] wz fun r w' => r = .returned (.tuple #[]) ∧ ∃ X, cab X = (roRaw l a e).1 ∧ ((roRaw l a e).2.2 = 0 → cok X) ∧ RC w base g b2 b3 gC l w' X (roRaw l a e).2.1 (roRaw l a e).2.2 ∧ Grown2 wz w' g gC := by
  have hA : (roA l a e).2.1 ≤ l.length := abvOut_at _ _ _ _ ha
  have hc := ro_cok (l := l) (a := a) (e := e)
  rw [ro_1 hk] at hc ⊢
  refine (tk_edit h hA hm).mono ?_
  rintro r w' ⟨rfl, hR, hG⟩
  exact ⟨rfl, rx1 l a e, rfl, hc, hR, hG⟩
theorem clo_5 (ha : a ≤ l.length) (hm : l.length ≤ 4000) (hk : (roA l a e).1 = 5) (h : RC w base g b2 b3 gC l wz { zcm with kd := 5 } (roA l a e).2.1 (roA l a e).2.2) (hB : Blk wz b5 [.func (.func 34) #[] #[.pointer (some ⟨b2, 0, none⟩), .pointer (some ⟨b3, 0, none⟩)]]) :
    Calls Tryz.prog 37 #[.pointer (some ⟨b2, 0, none⟩), .pointer (some ⟨b3, 0, none⟩)] wz fun r w' => r = .returned (.tuple #[]) ∧ ∃ X, cab X = (roRaw l a e).1 ∧ ((roRaw l a e).2.2 = 0 → cok X) ∧ RC w base g b2 b3 gC l w' X (roRaw l a e).2.1 (roRaw l a e).2.2 ∧ Grown2 wz w' g gC := by
  have hA : (roA l a e).2.1 ≤ l.length := abvOut_at _ _ _ _ ha
  have hc := ro_cok (l := l) (a := a) (e := e)
  rw [ro_5 hk] at hc ⊢
  refine (tk_keep h hA hm).mono ?_
  rintro r w' ⟨rfl, hR, hG⟩
  exact ⟨rfl, rx5 l a e, rfl, hc, hR, hG⟩
theorem clo_2 (ha : a ≤ l.length) (hm : l.length ≤ 4000) (hk : (roA l a e).1 = 2) (h : RC w base g b2 b3 gC l wz { zcm with kd := 2 } (roA l a e).2.1 (roA l a e).2.2) (hB : Blk wz b5 [.func (.func 34) #[] #[.pointer (some ⟨b2, 0, none⟩), .pointer (some ⟨b3, 0, none⟩)]]) :
    Calls Tryz.prog 38 #[.pointer (some ⟨b5, 0, none⟩), .pointer (some ⟨b2, 0, none⟩), .pointer (some ⟨b3, 0, none⟩)] wz fun r w' => r = .returned (.tuple #[]) ∧ ∃ X, cab X = (roRaw l a e).1 ∧ ((roRaw l a e).2.2 = 0 → cok X) ∧ RC w base g b2 b3 gC l w' X (roRaw l a e).2.1 (roRaw l a e).2.2 ∧ Grown2 wz w' g gC := by
  have hA : (roA l a e).2.1 ≤ l.length := abvOut_at _ _ _ _ ha
  have hc := ro_cok (l := l) (a := a) (e := e)
  rw [ro_2 hk] at hc ⊢
  refine (tk_put h hA hm hB).mono ?_
  rintro r w' ⟨rfl, hR, hG⟩
  exact ⟨rfl, rx2 l a e, rfl, hc, hR, hG⟩
theorem clo_3 (ha : a ≤ l.length) (hm : l.length ≤ 4000) (hk : (roA l a e).1 = 3) (h : RC w base g b2 b3 gC l wz { zcm with kd := 3 } (roA l a e).2.1 (roA l a e).2.2) (hB : Blk wz b5 [.func (.func 34) #[] #[.pointer (some ⟨b2, 0, none⟩), .pointer (some ⟨b3, 0, none⟩)]]) :
    Calls Tryz.prog 40 #[.pointer (some ⟨b5, 0, none⟩), .pointer (some ⟨b2, 0, none⟩), .pointer (some ⟨b3, 0, none⟩)] wz fun r w' => r = .returned (.tuple #[]) ∧ ∃ X, cab X = (roRaw l a e).1 ∧ ((roRaw l a e).2.2 = 0 → cok X) ∧ RC w base g b2 b3 gC l w' X (roRaw l a e).2.1 (roRaw l a e).2.2 ∧ Grown2 wz w' g gC := by
  have hA : (roA l a e).2.1 ≤ l.length := abvOut_at _ _ _ _ ha
  have hc := ro_cok (l := l) (a := a) (e := e)
  rw [ro_3 hk] at hc ⊢
  refine (tk_sub h hA hm hB).mono ?_
  rintro r w' ⟨rfl, AF, cF, hR, hG⟩
  exact ⟨rfl, { rx3 l a e with A := AF, n := (roF l a e).1.length, c := cF }, rfl, fun h0 => (cab_cok (show cab { rx3 l a e with A := AF, n := (roF l a e).1.length, c := cF } = cab (rx3 l a e) from rfl)).2 (hc h0), hR, hG⟩
theorem clo_4 (ha : a ≤ l.length) (hm : l.length ≤ 4000) (hk : (roA l a e).1 = 4) (h : RC w base g b2 b3 gC l wz { zcm with kd := 4 } (roA l a e).2.1 (roA l a e).2.2) (hB : Blk wz b5 [.func (.func 34) #[] #[.pointer (some ⟨b2, 0, none⟩), .pointer (some ⟨b3, 0, none⟩)]]) :
    Calls Tryz.prog 34 #[.pointer (some ⟨b2, 0, none⟩), .pointer (some ⟨b3, 0, none⟩)] wz fun r w' => r = .returned (.tuple #[]) ∧ ∃ X, cab X = (roRaw l a e).1 ∧ ((roRaw l a e).2.2 = 0 → cok X) ∧ RC w base g b2 b3 gC l w' X (roRaw l a e).2.1 (roRaw l a e).2.2 ∧ Grown2 wz w' g gC := by
  have hA : (roA l a e).2.1 ≤ l.length := abvOut_at _ _ _ _ ha
  have hc := ro_cok (l := l) (a := a) (e := e)
  rw [ro_4 hk] at hc ⊢
  refine (tk_req h hA hm).mono ?_
  rintro r w' ⟨rfl, hR, hG⟩
  exact ⟨rfl, rxq l a e 4, rfl, hc, hR, hG⟩
end
theorem cread_in (base g : Nat) (l : List UInt8) (a : Nat) (e : Int) (w : World) (h : Rd w base g l a e) (ha : a ≤ l.length) (hm : l.length ≤ 4000) (k : Int) (hk : (((roA l a e).1 : Nat) : Int) = k) (hwf : (Lit.int .i64 k).wf = true) (F : FuncId) (mk : Nat → Array Value) (hen : ∀ args wx, (callFunc F args).run Tryz.prog wx = .ok (.enter F args) wx)
    (hget : ∀ s, mget (tkm s) k = some (.func (.func F) #[] (mk s)))
    (HC : ∀ (s gC : Nat) (wz : World), RC w base g s (s + 1) gC l wz { zcm with kd := k } (roA l a e).2.1 (roA l a e).2.2 → Blk wz (s + 2) [fnR s] → Calls Tryz.prog F (mk s) wz fun r w' => r = .returned (.tuple #[]) ∧ ∃ X, cab X = (roRaw l a e).1 ∧ ((roRaw l a e).2.2 = 0 → cok X) ∧ RC w base g s (s + 1) gC l w' X (roRaw l a e).2.1 (roRaw l a e).2.2 ∧ Grown2 wz w' g gC) :
    Calls Tryz.prog 7 #[.pointer (some ⟨g, 0, none⟩)] w (CmRead w base g l (cmOut l a e)) := by
  have hu := Tryz.underlying41
  have hki := Tryz.underlying3
  have htm := Tryz.underlying57
  have hgl := h.block.2
  have HA := Lib.hid (fun (wz : World) (hz : Rd wz base g l a e) => (cm_above base g l a e 5 wz hz ha hm).mono (R' := fun r w' => r = .returned (.int .i64 k) ∧ Rd w' base g l (roA l a e).2.1 (roA l a e).2.2 ∧ wz.grownBy w' (some g)) (by
    rintro r w' ⟨rfl, hr, hG⟩
    exact ⟨by rw [← hk]; rfl, hr, hG⟩))
  obtain ⟨T, hT⟩ : ∃ T, T = cmOut l a e := ⟨_, rfl⟩
  have hT2 : T = (if (roRaw l a e).2.2 = 0 then (roRaw l a e).1 else zcm, (roRaw l a e).2.1, (roRaw l a e).2.2) := hT
  rw [← hT]
  obtain ⟨a1, ha1⟩ : ∃ z, z = (roA l a e).2.1 := ⟨_, rfl⟩
  obtain ⟨e1, he1⟩ : ∃ z, z = (roA l a e).2.2 := ⟨_, rfl⟩
  rw [← ha1, ← he1] at HA HC
  obtain ⟨raw, hraw⟩ : ∃ z, z = (roRaw l a e).1 := ⟨_, rfl⟩
  obtain ⟨a5, ha5⟩ : ∃ z, z = (roRaw l a e).2.1 := ⟨_, rfl⟩
  obtain ⟨e5, he5⟩ : ∃ z, z = (roRaw l a e).2.2 := ⟨_, rfl⟩
  rw [← hraw, ← ha5, ← he5] at HC hT2
  have HT0 := hid hT2
  have HC := hid HC
  have HGET := hid hget
  have HWF := hid hwf
  have HEN := hid hen
  obtain ⟨zs, hzs⟩ : ∃ zs, zs = cmc zcm := ⟨_, rfl⟩
  have HZL : Hid (zs.length = 63) := hid (by rw [hzs]; rfl)
  have HZO : Hid (zs.toArray.all (·.oneCell') = true) := hid (by rw [hzs]; exact all_oneCell_toArray (cmc_one zcm))
  have HZS := hid hzs
  obtain ⟨x0, hx0⟩ : ∃ c, c = cmc { zcm with kd := k } := ⟨_, rfl⟩
  have HX0 := hid hx0
  have HX0L : Hid (x0.length = 63) := hid (by rw [hx0]; rfl)
  have HX0O : Hid (x0.toArray.all (·.oneCell') = true) := hid (by rw [hx0]; exact all_oneCell_toArray (cmc_one _))
  obtain ⟨W0, hW0⟩ : ∃ W0, W0 = w.alloc (.cells zA63 41) := ⟨_, rfl⟩
  have HW0 := hid hW0
  have HR0 : Hid (Rd W0 base g l a e) := hid (by rw [hW0]; exact h.later (below_a1C w _))
  have HB0 : Hid (Blk W0 w.heap.size zs) := hid (by rw [hW0, hzs]; exact Blk.new w (cmc zcm) 41)
  have HG0 : Hid (w.grownBy W0 (some g)) := hid (by rw [hW0]; exact grown_onto (World.grownBy.refl w (some g)) (below_a1C w _))
  have HGL := hid hgl
  have HZ0 : Hid (W0.heap.size = w.heap.size + 1) := hid (by rw [hW0]; simp)
  clear hW0 hx0 hzs hT hT2 ha1 he1 ha5 he5 hgl h hk ha hm hraw hget hwf hen
  go_enter Tryz.func7, Tryz.ntmps7
  go_wp2_with fail
  rw [← HW0.out]
  clear HW0
  refine (HA.out W0 HR0.out).mono ?_
  rintro r w1 ⟨rfl, hr1, hG1⟩
  have HR1 := hid hr1
  have HB1 := hid (HB0.out.kept hG1 (by have := HGL.out; intro e; injection e with e; omega))
  have HG1 := hid (HG0.out.trans hG1)
  have HS1 : Hid (w.heap.size < w1.heap.size) := hid (by have := hG1.size; have := HZ0.out; omega)
  clear hr1 hG1 HA HR0 HB0 HG0 HZ0
  have TH : (w1.alloc (.cells zA63 41)).there w1.heap.size 0 63 := (Blk.new w1 (cmc zcm) 41).there 0 63 (by decide)
  obtain ⟨W2, hW2⟩ : ∃ W2, W2 = (w1.alloc (.cells zA63 41)).setCells w1.heap.size 0 x0 := ⟨_, rfl⟩
  have HW2 := hid hW2
  have hbA := below_a1C w1 (.cells zA63 41)
  have HR2 : Hid (Rd W2 base g l a1 e1) := hid (by rw [hW2]; exact (HR1.out.later hbA).sets2 (by have := HR1.out.block.2; omega))
  have HB2 : Hid (Blk W2 w.heap.size zs) := hid (by rw [hW2]; exact (HB1.out.later hbA).setsOther (by have := HS1.out; omega) _ _)
  have HC2 : Hid (Blk W2 w1.heap.size x0) := hid (by rw [hW2]; exact (Blk.new w1 (cmc zcm) 41).wholeT (by rw [HX0L.out]; rfl))
  have HG2 : Hid (w.grownBy W2 (some g)) := hid (by rw [hW2]; exact grown_new (grown_onto HG1.out hbA) (grown_sets w1.heap.size x0 0 _) (Nat.le_of_lt HS1.out))
  clear hW2 hbA HR1 HB1 HG1
  go_wp2_with (first
    | (refine wpList_store_asC rfl 41 (.tmp 3) (.tmp 8) rfl w1.heap.size 0 x0.toArray rfl (by rw [HX0.out]; rfl) (by simpa [HX0L.out] using TH) (by simpa [HX0L.out] using info_cm) HX0O.out W2 HW2.out ?_)
    | fail)
  clear TH HW2
  generalize w1.heap.size = gC at *
  have hS0 : W2.drew.cell? ⟨gC, 0, none⟩ = some (.int .i64 k) := HC2.out.drew.cell (j := 0) (by rw [HX0.out]; rfl)
  refine wp_region_held (S := fun wz => wz.cell? ⟨gC, 0, none⟩ = some (.int .i64 k)) (by kernel_rfl) ?_
  show Go.wpAnyH Tryz.prog Region.Mode.any _ _ _ _ _ _ W2.drew
  have HRd := hid (HR2.out.later (Below.refl _ _).drew)
  have HBd := hid HB2.out.drew
  have HCd := hid HC2.out.drew
  have HGd := hid (grown_onto HG2.out (Below.refl _ _).drew)
  clear HR2 HB2 HC2 HG2
  generalize W2.drew = wd at HRd HBd HCd HGd hS0 ⊢
  have hS := hS0
  refine takeH (i := 0) (oi := _) (v := (.pointer (some ⟨g, 0, none⟩))) (fuel := 9) (some 10) rfl rfl (by kernel_rfl) (by kernel_rfl) (by kernel_rfl) (fun _ _ _ h => h) (.inl ⟨by rfl, fun wz hS => by simp [go_sem]⟩) hS ?_
  simp only [pq4]
  refine takeH (i := 2) (oi := _) (v := (.pointer (some ⟨gC, 0, none⟩))) (fuel := 8) (some 12) rfl rfl (by kernel_rfl) (by kernel_rfl) (by kernel_rfl) (fun _ _ _ h => h) (.inl ⟨by rfl, fun wz hS => by simp [go_sem]⟩) hS ?_
  simp only [pq4]
  refine takeH (i := 3) (oi := _) (v := (.int .i64 k)) (fuel := 7) (some 13) rfl rfl (by kernel_rfl) (by kernel_rfl) (by kernel_rfl) (fun _ _ _ h => h) (.inl ⟨by rfl, fun wz hS => by simp [go_sem, hS]⟩) hS ?_
  simp only [pq4]
  refine allH [1] 1 (fuel := 6) (by kernel_rfl) ?_
  refine callH (some 11) _ rfl rfl 17 #[.pointer (some ⟨g, 0, none⟩), .pointer (some ⟨gC, 0, none⟩)] (by simp [go_sem]) (by rfl) ?_
  refine (tk_new g gC wd).mono ?_
  rintro r w3 ⟨rfl, ⟨hb1, hb2, hb3⟩, HM, hbl⟩
  have HC3 := hid (HCd.out.later hbl)
  have HB3 := hid (HBd.out.later hbl)
  have HR3 := hid (HRd.out.later hbl)
  have HG3 := hid (grown_onto HGd.out hbl)
  have hS : w3.cell? ⟨gC, 0, none⟩ = some (.int .i64 k) := HC3.out.cell (j := 0) (by rw [HX0.out]; rfl)
  have hlk := HM.look2 hki htm (zero_fn w3) (x := k) HWF.out
  have hgt : gC < wd.heap.size := HCd.out.lt
  rw [HGET.out wd.heap.size] at hlk
  have HCS := hid (HC.out wd.heap.size gC)
  obtain ⟨caps, hcaps⟩ : ∃ c, c = mk wd.heap.size := ⟨_, rfl⟩
  rw [← hcaps] at hlk HCS
  clear hcaps
  refine ⟨_, rfl, hS, ?_⟩
  simp only [pq4]
  refine allH [4] 4 (fuel := 5) (by kernel_rfl) ?_
  refine runH (some 14) _ rfl rfl (by rfl) (.tuple #[.func (.func F) #[] caps, .bool true]) (exec_lookI (.tmp 11) (.tmp 13) rfl k rfl rfl hlk) ⟨hS, ?_⟩
  simp only [pq4]
  refine takeH (i := 5) (oi := _) (v := (.tuple #[.func (.func F) #[] caps, .bool true])) (fuel := 4) (some 9) rfl rfl (by kernel_rfl) (by kernel_rfl) (by kernel_rfl) (fun _ _ _ h => h) (.inl ⟨by rfl, fun wz hS => by simp [go_sem]⟩) hS ?_
  simp only [pq4]
  refine takeH (i := 6) (oi := _) (v := (.func (.func F) #[] caps)) (fuel := 3) (some 15) rfl rfl (by kernel_rfl) (by kernel_rfl) (by kernel_rfl) (fun _ _ _ h => h) (.inl ⟨by rfl, fun wz hS => by simp [go_sem]⟩) hS ?_
  simp only [pq4]
  refine takeH (i := 7) (oi := _) (v := (.bool true)) (fuel := 2) (some 16) rfl rfl (by kernel_rfl) (by kernel_rfl) (by kernel_rfl) (fun _ _ _ h => h) (.inl ⟨by rfl, fun wz hS => by simp [go_sem]⟩) hS ?_
  simp only [pq4]
  refine takeH (i := 8) (oi := _) (v := (.func (.func F) #[] caps)) (fuel := 1) (some 4) rfl rfl (by kernel_rfl) (by kernel_rfl) (by kernel_rfl) (fun _ _ _ h => h) (.inl ⟨by rfl, fun wz hS => by simp [go_sem]⟩) hS ?_
  simp only [pq4]
  refine takeH (i := 9) (oi := _) (v := (.bool true)) (fuel := 0) (some 5) rfl rfl (by kernel_rfl) (by kernel_rfl) (by kernel_rfl) (fun _ _ _ h => h) (.inl ⟨by rfl, fun wz hS => by simp [go_sem]⟩) hS ?_
  simp only [pq4]
  refine wpAnyH_done (by kernel_rfl) ?_ 0
  have hc1 : w.heap.size < gC := HS1.out
  have HR3 : Hid (RC w base g wd.heap.size (wd.heap.size + 1) gC l w3 { zcm with kd := k } a1 e1) := hid ⟨HR3.out, hb1, hb2, by rw [← HX0.out]; exact HC3.out, ⟨rfl, rfl, rfl, Nat.le_refl _, Nat.zero_le _, Sees.nil_⟩, Nat.zero_le _, fun ad e hn => (by cases e), HG3.out, HGL.out, by omega, by omega, by omega, by omega, by omega⟩
  have HCL0 := hid (HCS.out w3 HR3.out hb3)
  have HGC := hid hc1
  clear hb1 hb2 hb3 HM hbl hlk hS hS0 HCd HBd HRd HGd HC3 HG3 hc1 hgt HS1 HX0L HX0O HC HCS HGET HWF
  generalize wd.heap.size = s at *
  have hen1 := HEN.out caps w3
  go_wp2_with fail
  clear hen1
  refine HCL0.out.mono ?_
  rintro r w5 ⟨rfl, X, hX, hcok, HR5, HG5⟩
  have BR5 := hid (HB3.out.kept2 HG5 (by have := HGL.out; omega) (by have := HGC.out; omega))
  have HR5 := hid HR5
  have HXR := hid hX
  clear hX HG5 HCL0 HR3 HB3
  by_cases he : e5 = 0
  · have HEZ := hid he
    have ke : (e5 != 0) = false := by simpa using he
    have hT2 := HT0.out
    rw [if_pos he] at hT2
    have HT := hid hT2
    clear hT2 he
    obtain ⟨xc, hxc⟩ : ∃ c, c = cmc X := ⟨_, rfl⟩
    have HLX : Hid (xc.length = 63) := hid (by rw [hxc]; exact cmc_len HR5.out.ok.e8 HR5.out.ok.p8)
    have HOX : Hid (xc.toArray.all (·.oneCell') = true) := hid (by rw [hxc]; exact all_oneCell_toArray (cmc_one X))
    have HXC := hid hxc
    have hch := ccheck_any X w5 HR5.out.ok
    have RG := HR5.out.c.range 0 xc (by rw [← hxc, List.drop_zero, List.take_length])
    rw [← hxc] at hch
    clear hxc
    have hx : cok X := hcok HEZ.out
    clear hcok
    rw [decide_eq_true hx] at hch
    have HCH := hid hch
    clear hch hx
    go_wp2_with (first
      | (refine wpList_load_mid rfl 41 (.tmp 3) rfl gC 0 rfl xc _ RG hu rfl (by rw [HLX.out]; exact info_cm) ?_)
      | fail)
    refine HCH.out.mono ?_
    rintro r w6 ⟨rfl, hb6⟩
    have HR6 := hid (HR5.out.later hb6)
    have BR6 := hid (BR5.out.later hb6)
    clear hb6 HCH RG HR5 BR5
    have HRD := hid HR6.out.rd
    have HGW := hid HR6.out.gr
    go_wp2_with fail
    refine (rd_err base g l a5 e5 w6 HR6.out.rd).mono ?_
    rintro r w8 ⟨rfl, rfl⟩
    have HCL := HLX
    have HON := HOX
    have HCS := HXC
    have okR0 := HR6.out.ok
    have nR := HR6.out.n31
    have lowR : lowCm w.heap.size X := fun ad e hn => by have := HR6.out.fl ad e hn; have := HGC.out; have := HGL.out; omega
    have hfr : farCm w.heap.size X := HR6.out.fl.far (by have := HGC.out; omega)
    have okR : okCm (w6.setCells w.heap.size 0 xc) X := okR0.kept2 hfr hfr (Grown2.two (grown_sets w.heap.size xc 0 w6))
    have cabR : cab X = T.1 := by rw [HT.out]; exact HXR.out
    have RG := HR6.out.c.range 0 xc (by rw [← HXC.out, List.drop_zero, List.take_length])
    clear okR0 hfr
    have RB := BR6.out
    have T8 := RB.there 0 63 (by rw [HZL.out]; omega)
    have FIN := RB.wholeT (ds := xc) (HCL.out.trans HZL.out.symm)
    have O8 : xc.toArray.all (·.oneCell') = true := HON.out
    have R9 := HRD.out.other (grown_sets w.heap.size xc 0 w6) (by have := HGL.out; omega)
    have G9 := grown_new HGW.out (grown_sets w.heap.size xc 0 w6) (Nat.le_refl _)
    clear RB
    go_wp2_with (first
      | (refine wpList_load_mid rfl 41 (.tmp 3) rfl gC 0 rfl xc _ RG hu rfl (by rw [HLX.out]; exact info_cm) ?_)
      | (refine wpList_store_mid rfl 41 (.tmp 2) (.tmp 29) rfl w.heap.size 0 xc.toArray rfl rfl (by simpa [HLX.out] using T8) (by simpa [HLX.out] using info_cm) O8 ?_)
      | fail)
    exact bodyPost_ret (v := .agg xc.toArray) (tok_results (q := 2) rfl _ _ w.heap.size xc _ rfl FIN hu rfl (by rw [HCL.out]; exact info_cm)) rfl ⟨⟨X, by rw [HCS.out], okR, cabR, nR, lowR⟩, by rw [HT.out]; exact R9, G9⟩
  · have HNE := hid he
    have ke : (e5 != 0) = true := by simpa using he
    have hT2 := HT0.out
    rw [if_neg he] at hT2
    have HT := hid hT2
    clear hT2 he
    obtain ⟨xc, hxc⟩ : ∃ c, c = cmc X := ⟨_, rfl⟩
    have HLX : Hid (xc.length = 63) := hid (by rw [hxc]; exact cmc_len HR5.out.ok.e8 HR5.out.ok.p8)
    have HOX : Hid (xc.toArray.all (·.oneCell') = true) := hid (by rw [hxc]; exact all_oneCell_toArray (cmc_one X))
    have HXC := hid hxc
    have hch := ccheck_any X w5 HR5.out.ok
    have RG := HR5.out.c.range 0 xc (by rw [← hxc, List.drop_zero, List.take_length])
    rw [← hxc] at hch
    clear hxc
    clear hcok
    by_cases hx : cok X
    · rw [decide_eq_true hx] at hch
      have HCH := hid hch
      clear hch hx
      go_wp2_with (first
        | (refine wpList_load_mid rfl 41 (.tmp 3) rfl gC 0 rfl xc _ RG hu rfl (by rw [HLX.out]; exact info_cm) ?_)
        | fail)
      refine HCH.out.mono ?_
      rintro r w6 ⟨rfl, hb6⟩
      have HR6 := hid (HR5.out.later hb6)
      have BR6 := hid (BR5.out.later hb6)
      clear hb6 HCH RG HR5 BR5
      have HRD := hid HR6.out.rd
      have HGW := hid HR6.out.gr
      go_wp2_with fail
      refine (rd_err base g l a5 e5 w6 HR6.out.rd).mono ?_
      rintro r w8 ⟨rfl, rfl⟩
      have HCL := HZL
      have HON := HZO
      have HCS := HZS
      have okR := zcm_ok (w6.setCells w.heap.size 0 zs)
      have nR : zcm.n ≤ 31 := by decide
      have lowR : lowCm w.heap.size zcm := fun ad e hn => by cases e
      have cabR : cab zcm = T.1 := by rw [HT.out]; rfl
      have RB := BR6.out
      have T8 := RB.there 0 63 (by rw [HZL.out]; omega)
      have FIN := RB.wholeT (ds := zs) (HCL.out.trans HZL.out.symm)
      have O8 : zs.toArray.all (·.oneCell') = true := HON.out
      have R9 := HRD.out.other (grown_sets w.heap.size zs 0 w6) (by have := HGL.out; omega)
      have G9 := grown_new HGW.out (grown_sets w.heap.size zs 0 w6) (Nat.le_refl _)
      clear RB
      go_wp2_with (first
        | (refine wpList_store_mid rfl 41 (.tmp 2) (.tmp 28) rfl w.heap.size 0 zs.toArray rfl (by rw [HZS.out]; rfl) (by simpa [HZL.out] using T8) (by simpa [HZL.out] using info_cm) O8 ?_)
        | fail)
      exact bodyPost_ret (v := .agg zs.toArray) (tok_results (q := 2) rfl _ _ w.heap.size zs _ rfl FIN hu rfl (by rw [HCL.out]; exact info_cm)) rfl ⟨⟨zcm, by rw [HCS.out], okR, cabR, nR, lowR⟩, by rw [HT.out]; exact R9, G9⟩
    · rw [decide_eq_false hx] at hch
      have HCH := hid hch
      clear hch hx
      go_wp2_with (first
        | (refine wpList_load_mid rfl 41 (.tmp 3) rfl gC 0 rfl xc _ RG hu rfl (by rw [HLX.out]; exact info_cm) ?_)
        | fail)
      refine HCH.out.mono ?_
      rintro r w6 ⟨rfl, hb6⟩
      have HR6 := hid (HR5.out.later hb6)
      have BR6 := hid (BR5.out.later hb6)
      clear hb6 HCH RG HR5 BR5
      go_wp2_with fail
      refine (rd_fail base g l a5 e5 3 w6 HR6.out.rd).mono ?_
      rintro r w7 ⟨rfl, hr7, hG7⟩
      have HRD : Hid (Rd w7 base g l a5 e5) := hid (by rw [failOut_ne HNE.out] at hr7; exact hr7)
      have HGW := hid (HR6.out.gr.trans hG7)
      have BR7 := hid (BR6.out.kept hG7 (by have := HGL.out; intro e; injection e with e; omega))
      clear hr7 hG7 HR6 BR6
      have BR6 := BR7
      go_wp2_with fail
      refine (rd_err base g l a5 e5 w7 HRD.out).mono ?_
      rintro r w8 ⟨rfl, rfl⟩
      have HCL := HZL
      have HON := HZO
      have HCS := HZS
      have okR := zcm_ok (w7.setCells w.heap.size 0 zs)
      have nR : zcm.n ≤ 31 := by decide
      have lowR : lowCm w.heap.size zcm := fun ad e hn => by cases e
      have cabR : cab zcm = T.1 := by rw [HT.out]; rfl
      have RB := BR6.out
      have T8 := RB.there 0 63 (by rw [HZL.out]; omega)
      have FIN := RB.wholeT (ds := zs) (HCL.out.trans HZL.out.symm)
      have O8 : zs.toArray.all (·.oneCell') = true := HON.out
      have R9 := HRD.out.other (grown_sets w.heap.size zs 0 w7) (by have := HGL.out; omega)
      have G9 := grown_new HGW.out (grown_sets w.heap.size zs 0 w7) (Nat.le_refl _)
      clear RB
      go_wp2_with (first
        | (refine wpList_store_mid rfl 41 (.tmp 2) (.tmp 28) rfl w.heap.size 0 zs.toArray rfl (by rw [HZS.out]; rfl) (by simpa [HZL.out] using T8) (by simpa [HZL.out] using info_cm) O8 ?_)
        | fail)
      exact bodyPost_ret (v := .agg zs.toArray) (tok_results (q := 2) rfl _ _ w.heap.size zs _ rfl FIN hu rfl (by rw [HCL.out]; exact info_cm)) rfl ⟨⟨zcm, by rw [HCS.out], okR, cabR, nR, lowR⟩, by rw [HT.out]; exact R9, G9⟩
end Go.Proofs.YtnhcjadkbogioaaGreat
