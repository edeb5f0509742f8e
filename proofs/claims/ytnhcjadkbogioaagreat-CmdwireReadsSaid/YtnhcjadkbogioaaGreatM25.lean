/- Commands as they are read: what the program's Read returns: no kind, an error. -/
import Derived.Test.YtnhcjadkbogioaaGreatM24
import Derived.Test.YtnhcjadkbogioaaGreatM18
import Derived.Test.YtnhcjadkbogioaaGreatM3
import Derived.Test.YtnhcjadkbogioaaGreatM2
import Derived.Test.YtnhcjadkbogioaaGreatM20
import Derived.Test.YtnhcjadkbogioaaGreatM22
import Derived.Test.YtnhcjadkbogioaaGreatM5
import Derived.Test.YtnhcjadkbogioaaGreatM16
set_option maxRecDepth 100000
set_option maxHeartbeats 12800000
namespace Go.Proofs.YtnhcjadkbogioaaGreat
set_option linter.unusedVariables false
set_option linter.unusedSimpArgs false
open Go Go.RowKit OctM BitM
theorem cread_0n (base g : Nat) (l : List UInt8) (a : Nat) (e : Int) (w : World) (h : Rd w base g l a e) (ha : a ≤ l.length) (hm : l.length ≤ 4000) (hk : (roA l a e).1 = 0) (he : (roRaw l a e).2.2 ≠ 0) :
    Calls Tryz.prog 7 #[.pointer (some ⟨g, 0, none⟩)] w (CmRead w base g l (cmOut l a e)) := by
  have hu := Tryz.underlying41
  have hki := Tryz.underlying3
  have htm := Tryz.underlying57
  have hgl := h.block.2
  have HA := Lib.hid (fun (wz : World) (hz : Rd wz base g l a e) => (cm_above base g l a e 5 wz hz ha hm).mono (R' := fun r w' => r = .returned (.int .i64 0) ∧ Rd w' base g l (roA l a e).2.1 (roA l a e).2.2 ∧ wz.grownBy w' (some g)) (by
    rintro r w' ⟨rfl, hr, hG⟩
    exact ⟨by rw [show (abvOut l a e 5).1 = 0 from hk]; rfl, hr, hG⟩))
  obtain ⟨T, hT⟩ : ∃ T, T = cmOut l a e := ⟨_, rfl⟩
  have hT2 : T = (if (roRaw l a e).2.2 = 0 then (roRaw l a e).1 else zcm, (roRaw l a e).2.1, (roRaw l a e).2.2) := hT
  rw [← hT]
  rw [ro_0 hk] at hT2 he
  obtain ⟨a1, ha1⟩ : ∃ z, z = (roA l a e).2.1 := ⟨_, rfl⟩
  obtain ⟨e1, he1⟩ : ∃ z, z = (roA l a e).2.2 := ⟨_, rfl⟩
  rw [← ha1, ← he1] at HA
  simp only at hT2 he
  rw [← ha1, ← he1] at hT2
  rw [← he1] at he
  obtain ⟨a5, ha5⟩ : ∃ z, z = a1 := ⟨_, rfl⟩
  obtain ⟨e5, he5⟩ : ∃ z, z = e1 := ⟨_, rfl⟩
  rw [← ha5, ← he5] at hT2 HA
  rw [← he5] at he
  rw [if_neg he] at hT2
  have HT := hid hT2
  have HNE := hid he
  have ke : (e5 != 0) = true := by simpa using he
  obtain ⟨zs, hzs⟩ : ∃ zs, zs = cmc zcm := ⟨_, rfl⟩
  have HZL : Hid (zs.length = 63) := hid (by rw [hzs]; rfl)
  have HZO : Hid (zs.toArray.all (·.oneCell') = true) := hid (by rw [hzs]; exact all_oneCell_toArray (cmc_one zcm))
  have HZS := hid hzs
  obtain ⟨x0, hx0⟩ : ∃ c, c = cmc { zcm with kd := 0 } := ⟨_, rfl⟩
  have HX0 := hid hx0
  have HX0L : Hid (x0.length = 63) := hid (by rw [hx0]; rfl)
  have HX0O : Hid (x0.toArray.all (·.oneCell') = true) := hid (by rw [hx0]; exact all_oneCell_toArray (cmc_one _))
  obtain ⟨W0, hW0⟩ : ∃ W0, W0 = w.alloc (.cells zA63 41) := ⟨_, rfl⟩
  have HW0 := hid hW0
  have HR0 : Hid (Rd W0 base g l a e) := hid (by rw [hW0]; exact h.later (below_a1C w _))
  have HB0 : Hid (Blk W0 w.heap.size zs) := hid (by rw [hW0, hzs]; exact Blk.new w (cmc zcm) 41)
  have HG0 : Hid (w.grownBy W0 (some g)) := hid (by rw [hW0]; exact grown_onto (World.grownBy.refl w (some g)) (below_a1C w _))
  have HGL := hid hgl
  have HZ0 : Hid (W0.heap.size = w.heap.size + 1) := hid (by rw [hW0]; simp)
  clear hW0 hx0 hzs hT hT2 he ha1 he1 ha5 he5 hgl h hk ha hm
  go_enter Tryz.func7, Tryz.ntmps7
  go_wp2_with fail
  rw [← HW0.out]
  clear HW0
  refine (HA.out W0 HR0.out).mono ?_
  rintro r w1 ⟨rfl, hr1, hG1⟩
  have HR1 := hid hr1
  have HB1 := hid (HB0.out.kept hG1 (by have := HGL.out; intro e; injection e with e; omega))
  have HG1 := hid (HG0.out.trans hG1)
  have HS1 : Hid (w.heap.size < w1.heap.size) := hid (by have := hG1.size; have := HZ0.out; omega)
  clear hr1 hG1 HA HR0 HB0 HG0 HZ0
  have TH : (w1.alloc (.cells zA63 41)).there w1.heap.size 0 63 := (Blk.new w1 (cmc zcm) 41).there 0 63 (by decide)
  obtain ⟨W2, hW2⟩ : ∃ W2, W2 = (w1.alloc (.cells zA63 41)).setCells w1.heap.size 0 x0 := ⟨_, rfl⟩
  have HW2 := hid hW2
  have hbA := below_a1C w1 (.cells zA63 41)
  have HR2 : Hid (Rd W2 base g l a5 e5) := hid (by rw [hW2]; exact (HR1.out.later hbA).sets2 (by have := HR1.out.block.2; omega))
  have HB2 : Hid (Blk W2 w.heap.size zs) := hid (by rw [hW2]; exact (HB1.out.later hbA).setsOther (by have := HS1.out; omega) _ _)
  have HC2 : Hid (Blk W2 w1.heap.size x0) := hid (by rw [hW2]; exact (Blk.new w1 (cmc zcm) 41).wholeT (by rw [HX0L.out]; rfl))
  have HG2 : Hid (w.grownBy W2 (some g)) := hid (by rw [hW2]; exact grown_new (grown_onto HG1.out hbA) (grown_sets w1.heap.size x0 0 _) (Nat.le_of_lt HS1.out))
  clear hW2 hbA HR1 HB1 HG1
  go_wp2_with (first
    | (refine wpList_store_asC rfl 41 (.tmp 3) (.tmp 8) rfl w1.heap.size 0 x0.toArray rfl (by rw [HX0.out]; rfl) (by simpa [HX0L.out] using TH) (by simpa [HX0L.out] using info_cm) HX0O.out W2 HW2.out ?_)
    | fail)
  clear TH HW2
  generalize w1.heap.size = gC at *
  have hS0 : W2.drew.cell? ⟨gC, 0, none⟩ = some (.int .i64 0) := HC2.out.drew.cell (j := 0) (by rw [HX0.out]; rfl)
  refine wp_region_held (S := fun wz => wz.cell? ⟨gC, 0, none⟩ = some (.int .i64 0)) (by kernel_rfl) ?_
  show Go.wpAnyH Tryz.prog Region.Mode.any _ _ _ _ _ _ W2.drew
  have HRd := hid (HR2.out.later (Below.refl _ _).drew)
  have HBd := hid HB2.out.drew
  have HCd := hid HC2.out.drew
  have HGd := hid (grown_onto HG2.out (Below.refl _ _).drew)
  clear HR2 HB2 HC2 HG2
  generalize W2.drew = wd at HRd HBd HCd HGd hS0 ⊢
  have hS := hS0
  refine takeH (i := 0) (oi := _) (v := (.pointer (some ⟨g, 0, none⟩))) (fuel := 9) (some 10) rfl rfl (by kernel_rfl) (by kernel_rfl) (by kernel_rfl) (fun _ _ _ h => h) (.inl ⟨by rfl, fun wz hS => by simp [go_sem]⟩) hS ?_
  simp only [pq4]
  refine takeH (i := 2) (oi := _) (v := (.pointer (some ⟨gC, 0, none⟩))) (fuel := 8) (some 12) rfl rfl (by kernel_rfl) (by kernel_rfl) (by kernel_rfl) (fun _ _ _ h => h) (.inl ⟨by rfl, fun wz hS => by simp [go_sem]⟩) hS ?_
  simp only [pq4]
  refine takeH (i := 3) (oi := _) (v := (.int .i64 0)) (fuel := 7) (some 13) rfl rfl (by kernel_rfl) (by kernel_rfl) (by kernel_rfl) (fun _ _ _ h => h) (.inl ⟨by rfl, fun wz hS => by simp [go_sem, hS]⟩) hS ?_
  simp only [pq4]
  refine allH [1] 1 (fuel := 6) (by kernel_rfl) ?_
  refine callH (some 11) _ rfl rfl 17 #[.pointer (some ⟨g, 0, none⟩), .pointer (some ⟨gC, 0, none⟩)] (by simp [go_sem]) (by rfl) ?_
  refine (tk_new g gC wd).mono ?_
  rintro r w3 ⟨rfl, ⟨hb1, hb2, hb3⟩, HM, hbl⟩
  have HC3 := hid (HCd.out.later hbl)
  have HB3 := hid (HBd.out.later hbl)
  have HR3 := hid (HRd.out.later hbl)
  have HG3 := hid (grown_onto HGd.out hbl)
  have hS : w3.cell? ⟨gC, 0, none⟩ = some (.int .i64 0) := HC3.out.cell (j := 0) (by rw [HX0.out]; rfl)
  have hlk := HM.look2 hki htm (zero_fn w3) (x := 0) rfl
  have hgt : gC < wd.heap.size := HCd.out.lt
  rw [(tkm_get wd.heap.size).1] at hlk
  refine ⟨_, rfl, hS, ?_⟩
  simp only [pq4]
  refine allH [4] 4 (fuel := 5) (by kernel_rfl) ?_
  refine runH (some 14) _ rfl rfl (by rfl) (.tuple #[.nilFunc, .bool false]) (exec_lookI (.tmp 11) (.tmp 13) rfl 0 rfl rfl hlk) ⟨hS, ?_⟩
  simp only [pq4]
  refine takeH (i := 5) (oi := _) (v := (.tuple #[.nilFunc, .bool false])) (fuel := 4) (some 9) rfl rfl (by kernel_rfl) (by kernel_rfl) (by kernel_rfl) (fun _ _ _ h => h) (.inl ⟨by rfl, fun wz hS => by simp [go_sem]⟩) hS ?_
  simp only [pq4]
  refine takeH (i := 6) (oi := _) (v := (.nilFunc)) (fuel := 3) (some 15) rfl rfl (by kernel_rfl) (by kernel_rfl) (by kernel_rfl) (fun _ _ _ h => h) (.inl ⟨by rfl, fun wz hS => by simp [go_sem]⟩) hS ?_
  simp only [pq4]
  refine takeH (i := 7) (oi := _) (v := (.bool false)) (fuel := 2) (some 16) rfl rfl (by kernel_rfl) (by kernel_rfl) (by kernel_rfl) (fun _ _ _ h => h) (.inl ⟨by rfl, fun wz hS => by simp [go_sem]⟩) hS ?_
  simp only [pq4]
  refine takeH (i := 8) (oi := _) (v := (.nilFunc)) (fuel := 1) (some 4) rfl rfl (by kernel_rfl) (by kernel_rfl) (by kernel_rfl) (fun _ _ _ h => h) (.inl ⟨by rfl, fun wz hS => by simp [go_sem]⟩) hS ?_
  simp only [pq4]
  refine takeH (i := 9) (oi := _) (v := (.bool false)) (fuel := 0) (some 5) rfl rfl (by kernel_rfl) (by kernel_rfl) (by kernel_rfl) (fun _ _ _ h => h) (.inl ⟨by rfl, fun wz hS => by simp [go_sem]⟩) hS ?_
  simp only [pq4]
  refine wpAnyH_done (by kernel_rfl) ?_ 0
  have hc1 : w.heap.size < gC := HS1.out
  have HR3 : Hid (RC w base g wd.heap.size (wd.heap.size + 1) gC l w3 { zcm with kd := 0 } a5 e5) := hid ⟨HR3.out, hb1, hb2, by rw [← HX0.out]; exact HC3.out, ⟨rfl, rfl, rfl, Nat.le_refl _, by decide, Sees.nil_⟩, by decide, fun ad e hn => (by cases e), HG3.out, HGL.out, by omega, by omega, by omega, by omega, by omega⟩
  have HF3 := hid hb3
  have HGC := hid hc1
  clear hb1 hb2 hb3 HM hbl hlk hS hS0 HCd HBd HRd HGd HC3 HG3 hc1 hgt HS1 HX0L HX0O
  generalize wd.heap.size = s at *
  obtain ⟨X, hX⟩ : ∃ X : Cm, X = { zcm with kd := 0 } := ⟨_, rfl⟩
  rw [← hX] at HR3
  have HR5 := HR3
  have BR5 := HB3
  have hcok : True := trivial
  obtain ⟨w5, hw5⟩ : ∃ w5, w5 = w3 := ⟨_, rfl⟩
  subst hw5
  clear hX HF3
  obtain ⟨xc, hxc⟩ : ∃ c, c = cmc X := ⟨_, rfl⟩
  have HLX : Hid (xc.length = 63) := hid (by rw [hxc]; exact cmc_len HR5.out.ok.e8 HR5.out.ok.p8)
  have HOX : Hid (xc.toArray.all (·.oneCell') = true) := hid (by rw [hxc]; exact all_oneCell_toArray (cmc_one X))
  have HXC := hid hxc
  have hch := ccheck_any X w5 HR5.out.ok
  have RG := HR5.out.c.range 0 xc (by rw [← hxc, List.drop_zero, List.take_length])
  rw [← hxc] at hch
  clear hxc
  clear hcok
  by_cases hx : cok X
  · rw [decide_eq_true hx] at hch
    have HCH := hid hch
    clear hch hx
    go_wp2_with (first
      | (refine wpList_load_mid rfl 41 (.tmp 3) rfl gC 0 rfl xc _ RG hu rfl (by rw [HLX.out]; exact info_cm) ?_)
      | fail)
    refine HCH.out.mono ?_
    rintro r w6 ⟨rfl, hb6⟩
    have HR6 := hid (HR5.out.later hb6)
    have BR6 := hid (BR5.out.later hb6)
    clear hb6 HCH RG HR5 BR5
    have HRD := hid HR6.out.rd
    have HGW := hid HR6.out.gr
    go_wp2_with fail
    refine (rd_err base g l a5 e5 w6 HR6.out.rd).mono ?_
    rintro r w8 ⟨rfl, rfl⟩
    have HCL := HZL
    have HON := HZO
    have HCS := HZS
    have okR := zcm_ok (w6.setCells w.heap.size 0 zs)
    have nR : zcm.n ≤ 31 := by decide
    have lowR : lowCm w.heap.size zcm := fun ad e hn => by cases e
    have cabR : cab zcm = T.1 := by rw [HT.out]; rfl
    have RB := BR6.out
    have T8 := RB.there 0 63 (by rw [HZL.out]; omega)
    have FIN := RB.wholeT (ds := zs) (HCL.out.trans HZL.out.symm)
    have O8 : zs.toArray.all (·.oneCell') = true := HON.out
    have R9 := HRD.out.other (grown_sets w.heap.size zs 0 w6) (by have := HGL.out; omega)
    have G9 := grown_new HGW.out (grown_sets w.heap.size zs 0 w6) (Nat.le_refl _)
    clear RB
    go_wp2_with (first
      | (refine wpList_store_mid rfl 41 (.tmp 2) (.tmp 28) rfl w.heap.size 0 zs.toArray rfl (by rw [HZS.out]; rfl) (by simpa [HZL.out] using T8) (by simpa [HZL.out] using info_cm) O8 ?_)
      | fail)
    exact bodyPost_ret (v := .agg zs.toArray) (tok_results (q := 2) rfl _ _ w.heap.size zs _ rfl FIN hu rfl (by rw [HCL.out]; exact info_cm)) rfl ⟨⟨zcm, by rw [HCS.out], okR, cabR, nR, lowR⟩, by rw [HT.out]; exact R9, G9⟩
  · rw [decide_eq_false hx] at hch
    have HCH := hid hch
    clear hch hx
    go_wp2_with (first
      | (refine wpList_load_mid rfl 41 (.tmp 3) rfl gC 0 rfl xc _ RG hu rfl (by rw [HLX.out]; exact info_cm) ?_)
      | fail)
    refine HCH.out.mono ?_
    rintro r w6 ⟨rfl, hb6⟩
    have HR6 := hid (HR5.out.later hb6)
    have BR6 := hid (BR5.out.later hb6)
    clear hb6 HCH RG HR5 BR5
    go_wp2_with fail
    refine (rd_fail base g l a5 e5 3 w6 HR6.out.rd).mono ?_
    rintro r w7 ⟨rfl, hr7, hG7⟩
    have HRD : Hid (Rd w7 base g l a5 e5) := hid (by rw [failOut_ne HNE.out] at hr7; exact hr7)
    have HGW := hid (HR6.out.gr.trans hG7)
    have BR7 := hid (BR6.out.kept hG7 (by have := HGL.out; intro e; injection e with e; omega))
    clear hr7 hG7 HR6 BR6
    have BR6 := BR7
    go_wp2_with fail
    refine (rd_err base g l a5 e5 w7 HRD.out).mono ?_
    rintro r w8 ⟨rfl, rfl⟩
    have HCL := HZL
    have HON := HZO
    have HCS := HZS
    have okR := zcm_ok (w7.setCells w.heap.size 0 zs)
    have nR : zcm.n ≤ 31 := by decide
    have lowR : lowCm w.heap.size zcm := fun ad e hn => by cases e
    have cabR : cab zcm = T.1 := by rw [HT.out]; rfl
    have RB := BR6.out
    have T8 := RB.there 0 63 (by rw [HZL.out]; omega)
    have FIN := RB.wholeT (ds := zs) (HCL.out.trans HZL.out.symm)
    have O8 : zs.toArray.all (·.oneCell') = true := HON.out
    have R9 := HRD.out.other (grown_sets w.heap.size zs 0 w7) (by have := HGL.out; omega)
    have G9 := grown_new HGW.out (grown_sets w.heap.size zs 0 w7) (Nat.le_refl _)
    clear RB
    go_wp2_with (first
      | (refine wpList_store_mid rfl 41 (.tmp 2) (.tmp 28) rfl w.heap.size 0 zs.toArray rfl (by rw [HZS.out]; rfl) (by simpa [HZL.out] using T8) (by simpa [HZL.out] using info_cm) O8 ?_)
      | fail)
    exact bodyPost_ret (v := .agg zs.toArray) (tok_results (q := 2) rfl _ _ w.heap.size zs _ rfl FIN hu rfl (by rw [HCL.out]; exact info_cm)) rfl ⟨⟨zcm, by rw [HCS.out], okR, cabR, nR, lowR⟩, by rw [HT.out]; exact R9, G9⟩
theorem cread_any (base g : Nat) (l : List UInt8) (a : Nat) (e : Int) (w : World) (h : Rd w base g l a e) (ha : a ≤ l.length) (hm : l.length ≤ 4000) :
    Calls Tryz.prog 7 #[.pointer (some ⟨g, 0, none⟩)] w (CmRead w base g l (cmOut l a e)) := by
  rcases roA_cases (l := l) (a := a) (e := e) with k | k | k | k | k | k
  · exact cread_0n base g l a e w h ha hm k (by rw [ro_0 k]; exact roA_0 k)
  · exact cread_in base g l a e w h ha hm 1 (by rw [k]; rfl) rfl 35 (fun s => #[.pointer (some ⟨s, 0, none⟩), .pointer (some ⟨s + 1, 0, none⟩)]) (fun _ _ => by kernel_rfl) (fun s => (tkm_get s).2.1) (fun s gC wz hR hB => clo_1 ha hm k hR hB)
  · exact cread_in base g l a e w h ha hm 2 (by rw [k]; rfl) rfl 38 (fun s => #[.pointer (some ⟨s + 2, 0, none⟩), .pointer (some ⟨s, 0, none⟩), .pointer (some ⟨s + 1, 0, none⟩)]) (fun _ _ => by kernel_rfl) (fun s => (tkm_get s).2.2.1) (fun s gC wz hR hB => clo_2 ha hm k hR hB)
  · exact cread_in base g l a e w h ha hm 3 (by rw [k]; rfl) rfl 40 (fun s => #[.pointer (some ⟨s + 2, 0, none⟩), .pointer (some ⟨s, 0, none⟩), .pointer (some ⟨s + 1, 0, none⟩)]) (fun _ _ => by kernel_rfl) (fun s => (tkm_get s).2.2.2.1) (fun s gC wz hR hB => clo_3 ha hm k hR hB)
  · exact cread_in base g l a e w h ha hm 4 (by rw [k]; rfl) rfl 34 (fun s => #[.pointer (some ⟨s, 0, none⟩), .pointer (some ⟨s + 1, 0, none⟩)]) (fun _ _ => by kernel_rfl) (fun s => (tkm_get s).2.2.2.2.1) (fun s gC wz hR hB => clo_4 ha hm k hR hB)
  · exact cread_in base g l a e w h ha hm 5 (by rw [k]; rfl) rfl 37 (fun s => #[.pointer (some ⟨s, 0, none⟩), .pointer (some ⟨s + 1, 0, none⟩)]) (fun _ _ => by kernel_rfl) (fun s => (tkm_get s).2.2.2.2.2) (fun s gC wz hR hB => clo_5 ha hm k hR hB)
theorem results_blk_tmp {P : Program} {fn : Func} {p q : Tmp} {ty : TypeId} (h : fn.results = #[.cell q ty, .tmp p]) (tmps : Array Value) (w : World) (g : Nat) (cs : List Value) (d : TypeDesc) (v : Value) (hp : tmps.getD p undef = v)
    (hq : tmps.getD q undef = .pointer (some ⟨g, 0, none⟩)) (hB : Blk w g cs)
    (hu : P.underlying ty = some d) (hd : (match d with | .struct _ | .array _ _ => true | _ => false) = true) (hi : (P.info? ty).map (·.size) = some cs.length) :
    (results fn tmps).run P w = .ok (.tuple #[.agg cs.toArray, v]) w := by
  obtain ⟨t, hB⟩ := hB
  subst hp
  have hq' : tmps[q]?.getD undef = .pointer (some ⟨g, 0, none⟩) := by simpa using hq
  simp [results, h, hq', asAddr, run_loadVar_row w g t ty cs.toArray (0, 0) d hB hu hd (by simpa using hi)]
def decOut (l : List UInt8) : Cm × Int := (if endOut l.length (cmOut l 0 0).2.1 (cmOut l 0 0).2.2 = 0 then (cmOut l 0 0).1 else zcm, endOut l.length (cmOut l 0 0).2.1 (cmOut l 0 0).2.2)
def CmDec (w : World) (q : Cm × Int) : Ending → World → Prop := fun r w' => (∃ x : Cm, r = .returned (.tuple #[.agg (cmc x).toArray, .int .i64 q.2]) ∧ okCm w' x ∧ cab x = q.1 ∧ x.n ≤ 31) ∧ Below w.heap.size w w'
theorem cdec_z (A : Option Addr) (n c : Nat) (l : List UInt8) (w : World) (hn : l.length = n) (hs : Sees w w.heap.size A (bvs l)) (hm : n ≤ 4000) (he : (decOut l).2 = 0) :
    Calls Tryz.prog 11 #[.slice A n c] w (CmDec w (decOut l)) := by
  have hu := Tryz.underlying41
  obtain ⟨T, hT⟩ : ∃ T, T = decOut l := ⟨_, rfl⟩
  rw [← hT] at he ⊢
  have hT2 : T = (if endOut l.length (cmOut l 0 0).2.1 (cmOut l 0 0).2.2 = 0 then (cmOut l 0 0).1 else zcm, endOut l.length (cmOut l 0 0).2.1 (cmOut l 0 0).2.2) := hT
  have ha5 := cmOut_at (l := l) (a := 0) (e := 0) (Nat.zero_le _)
  obtain ⟨q, hq⟩ : ∃ q, q = cmOut l 0 0 := ⟨_, rfl⟩
  have HRD := hid (fun (base g : Nat) (wz : World) (h : Rd wz base g l 0 0) => cread_any base g l 0 0 wz h (Nat.zero_le _) (by omega))
  rw [← hq] at hT2 HRD ha5
  obtain ⟨E, hE⟩ : ∃ E, E = endOut l.length q.2.1 q.2.2 := ⟨_, rfl⟩
  rw [← hE] at hT2
  have HEN := hid (fun (base g : Nat) (wz : World) (h : Rd wz base g l q.2.1 q.2.2) => rd_end base g l q.2.1 q.2.2 wz h ha5 (by omega))
  rw [← hE] at HEN
  have hE2 : T.2 = E := by rw [hT2]
  rw [hE2] at he
  rw [if_pos he] at hT2
  have HT := hid hT2
  have ke : (E != 0) = false := by simpa using he
  have HEE := hid he
  obtain ⟨zs, hzs⟩ : ∃ zs, zs = cmc zcm := ⟨_, rfl⟩
  have HZL : Hid (zs.length = 63) := hid (by rw [hzs]; rfl)
  have HZO : Hid (zs.toArray.all (·.oneCell') = true) := hid (by rw [hzs]; exact all_oneCell_toArray (cmc_one zcm))
  have HZS := hid hzs
  obtain ⟨W0, hW0⟩ : ∃ W0, W0 = w.alloc (.cells zA63 41) := ⟨_, rfl⟩
  have HW0 := hid hW0
  have HB0 : Hid (Blk W0 w.heap.size zs) := hid (by rw [hW0, hzs]; exact Blk.new w (cmc zcm) 41)
  have HL0 : Hid (Below w.heap.size w W0) := hid (by rw [hW0]; exact below_a1C w _)
  have HS := hid hs
  have HN := hid hn
  clear hW0 hzs hT hT2 hE hE2 hq he hs hn ha5
  go_enter Tryz.func11, Tryz.ntmps11
  go_wp2_with fail
  rw [← HW0.out]
  clear HW0
  refine (rd_new A n c l W0 HN.out ((HS.out.below HL0.out).more HL0.out.size) (by omega)).mono ?_
  rintro r w1 ⟨g, rfl, hr1, hb1⟩
  have hg := hr1.block
  have HG1 : Hid (w.heap.size < g ∧ W0.heap.size ≤ g) := hid ⟨by have := HB0.out.lt; omega, hg.1⟩
  have HR1 := hid hr1
  have HB1 := hid (HB0.out.later hb1)
  have HWS : Hid (w.heap.size < w1.heap.size) := hid HB1.out.lt
  have HL1 := hid (HL0.out.trans (hb1.mono HL0.out.size))
  clear hr1 hb1 hg HB0 HL0
  go_wp2_with fail
  refine (HRD.out _ g w1 HR1.out).mono ?_
  rintro r w2 ⟨⟨X, rfl, okX, cabX, nX, lowX⟩, hr2, hg2⟩
  have HR2 := hid hr2
  have HB2 := hid (HB1.out.kept hg2 (by have := HG1.out; intro e; injection e with e; omega))
  have HL2 := hid (HL1.out.trans (below_rowI hg2 (by have := HG1.out; omega) HL1.out.size))
  have HLX := hid lowX
  have HOK := hid okX
  clear hr2 hg2 HR1 HB1 HL1 HRD lowX
  obtain ⟨xc, hxc⟩ : ∃ xc, xc = cmc X := ⟨_, rfl⟩
  have HXL : Hid (xc.length = 63) := hid (by rw [hxc]; exact cmc_len okX.e8 okX.p8)
  have HXO : Hid (xc.toArray.all (·.oneCell') = true) := hid (by rw [hxc]; exact all_oneCell_toArray (cmc_one X))
  have HXC := hid hxc
  rw [← hxc]
  have TH : (w2.alloc (.cells zA63 41)).there w2.heap.size 0 63 := (Blk.new w2 (cmc zcm) 41).there 0 63 (by decide)
  obtain ⟨W3, hW3⟩ : ∃ W, W = (w2.alloc (.cells zA63 41)).setCells w2.heap.size 0 xc := ⟨_, rfl⟩
  have HW3 := hid hW3
  have hbA := below_a1C w2 (.cells zA63 41)
  have HR3 : Hid (Rd W3 W0.heap.size g l q.2.1 q.2.2) := hid (by rw [hW3]; exact (HR2.out.later hbA).sets2 (by have := HR2.out.block.2; omega))
  have HB3 : Hid (Blk W3 w.heap.size zs) := hid (by rw [hW3]; exact (HB2.out.later hbA).setsOther (by have := HB2.out.lt; omega) _ _)
  have HC3 : Hid (Blk W3 w2.heap.size xc) := hid (by rw [hW3]; exact (Blk.new w2 (cmc zcm) 41).wholeT (by rw [HXL.out]; rfl))
  have HL3 : Hid (Below w.heap.size w W3) := hid (by rw [hW3]; exact below_sets (by have := HB2.out.lt; omega) xc 0 (HL2.out.trans (hbA.mono HL2.out.size)))
  have HK3 : Hid (okCm W3 X) := hid (by rw [hW3]; exact (okX.later hbA).kept2 (okX.low (Nat.le_refl _)) (okX.low (Nat.le_refl _)) (Grown2.two (grown_sets w2.heap.size xc 0 _)))
  clear hW3 hbA HR2 HB2 HL2 hxc okX
  go_wp2_with (first
    | (refine wpList_store_asC rfl 41 (.tmp 5) (.tmp 10) rfl w2.heap.size 0 xc.toArray rfl rfl (by simpa [HXL.out] using TH) (by simpa [HXL.out] using info_cm) HXO.out W3 HW3.out ?_)
    | fail)
  clear TH HW3
  generalize w2.heap.size = gC at *
  refine (HEN.out _ g W3 HR3.out).mono ?_
  rintro r w4 ⟨rfl, nk, rfl⟩
  have HB4 := hid (HB3.out.drewN nk)
  have HC4 := hid (HC3.out.drewN nk)
  have HK4 := hid (HK3.out.later (below_drewN (Below.refl _ _) nk))
  have HL4 := hid (below_drewN HL3.out nk)
  clear HB3 HC3 HK3 HL3 HR3 HEN
  generalize W3.drewN nk = w4 at *
  have T8 := HB4.out.there 0 63 (by rw [HZL.out]; omega)
  have RG := HC4.out.range 0 xc (by rw [List.drop_zero, List.take_length])
  have FIN := HB4.out.wholeT (ds := xc) (HXL.out.trans HZL.out.symm)
  have hfr : farCm w.heap.size X := fun ad e hn => by have := HLX.out ad e hn; have := HWS.out; omega
  have okR : okCm (w4.setCells w.heap.size 0 xc) X := HK4.out.kept2 hfr hfr (Grown2.two (grown_sets w.heap.size xc 0 w4))
  have hbF : Below w.heap.size w (w4.setCells w.heap.size 0 xc) := below_sets (Nat.le_refl _) xc 0 HL4.out
  have hE0 : E = 0 := HEE.out
  have O8 := HXO.out
  clear hfr
  go_wp2_with (first
    | (refine wpList_load_mid rfl 41 (.tmp 5) rfl gC 0 rfl xc _ RG hu rfl (by rw [HXL.out]; exact info_cm) ?_)
    | (refine wpList_store_mid rfl 41 (.tmp 2) (.tmp 17) rfl w.heap.size 0 xc.toArray rfl rfl (by simpa [HXL.out] using T8) (by simpa [HXL.out] using info_cm) O8 ?_)
    | fail)
  exact bodyPost_ret (v := .tuple #[.agg xc.toArray, .int .i64 0]) (results_blk_tmp (q := 2) (p := 3) rfl _ _ w.heap.size xc _ (.int .i64 0) rfl rfl FIN hu rfl (by rw [HXL.out]; exact info_cm)) rfl ⟨⟨X, by rw [HT.out, HXC.out, hE0], okR, by rw [HT.out]; exact cabX, nX⟩, hbF⟩
theorem cdec_n (A : Option Addr) (n c : Nat) (l : List UInt8) (w : World) (hn : l.length = n) (hs : Sees w w.heap.size A (bvs l)) (hm : n ≤ 4000) (he : (decOut l).2 ≠ 0) :
    Calls Tryz.prog 11 #[.slice A n c] w (CmDec w (decOut l)) := by
  have hu := Tryz.underlying41
  obtain ⟨T, hT⟩ : ∃ T, T = decOut l := ⟨_, rfl⟩
  rw [← hT] at he ⊢
  have hT2 : T = (if endOut l.length (cmOut l 0 0).2.1 (cmOut l 0 0).2.2 = 0 then (cmOut l 0 0).1 else zcm, endOut l.length (cmOut l 0 0).2.1 (cmOut l 0 0).2.2) := hT
  have ha5 := cmOut_at (l := l) (a := 0) (e := 0) (Nat.zero_le _)
  obtain ⟨q, hq⟩ : ∃ q, q = cmOut l 0 0 := ⟨_, rfl⟩
  have HRD := hid (fun (base g : Nat) (wz : World) (h : Rd wz base g l 0 0) => cread_any base g l 0 0 wz h (Nat.zero_le _) (by omega))
  rw [← hq] at hT2 HRD ha5
  obtain ⟨E, hE⟩ : ∃ E, E = endOut l.length q.2.1 q.2.2 := ⟨_, rfl⟩
  rw [← hE] at hT2
  have HEN := hid (fun (base g : Nat) (wz : World) (h : Rd wz base g l q.2.1 q.2.2) => rd_end base g l q.2.1 q.2.2 wz h ha5 (by omega))
  rw [← hE] at HEN
  have hE2 : T.2 = E := by rw [hT2]
  rw [hE2] at he
  rw [if_neg he] at hT2
  have HT := hid hT2
  have ke : (E != 0) = true := by simpa using he
  have HEE := hid he
  obtain ⟨zs, hzs⟩ : ∃ zs, zs = cmc zcm := ⟨_, rfl⟩
  have HZL : Hid (zs.length = 63) := hid (by rw [hzs]; rfl)
  have HZO : Hid (zs.toArray.all (·.oneCell') = true) := hid (by rw [hzs]; exact all_oneCell_toArray (cmc_one zcm))
  have HZS := hid hzs
  obtain ⟨W0, hW0⟩ : ∃ W0, W0 = w.alloc (.cells zA63 41) := ⟨_, rfl⟩
  have HW0 := hid hW0
  have HB0 : Hid (Blk W0 w.heap.size zs) := hid (by rw [hW0, hzs]; exact Blk.new w (cmc zcm) 41)
  have HL0 : Hid (Below w.heap.size w W0) := hid (by rw [hW0]; exact below_a1C w _)
  have HS := hid hs
  have HN := hid hn
  clear hW0 hzs hT hT2 hE hE2 hq he hs hn ha5
  go_enter Tryz.func11, Tryz.ntmps11
  go_wp2_with fail
  rw [← HW0.out]
  clear HW0
  refine (rd_new A n c l W0 HN.out ((HS.out.below HL0.out).more HL0.out.size) (by omega)).mono ?_
  rintro r w1 ⟨g, rfl, hr1, hb1⟩
  have hg := hr1.block
  have HG1 : Hid (w.heap.size < g ∧ W0.heap.size ≤ g) := hid ⟨by have := HB0.out.lt; omega, hg.1⟩
  have HR1 := hid hr1
  have HB1 := hid (HB0.out.later hb1)
  have HWS : Hid (w.heap.size < w1.heap.size) := hid HB1.out.lt
  have HL1 := hid (HL0.out.trans (hb1.mono HL0.out.size))
  clear hr1 hb1 hg HB0 HL0
  go_wp2_with fail
  refine (HRD.out _ g w1 HR1.out).mono ?_
  rintro r w2 ⟨⟨X, rfl, okX, cabX, nX, lowX⟩, hr2, hg2⟩
  have HR2 := hid hr2
  have HB2 := hid (HB1.out.kept hg2 (by have := HG1.out; intro e; injection e with e; omega))
  have HL2 := hid (HL1.out.trans (below_rowI hg2 (by have := HG1.out; omega) HL1.out.size))
  have HLX := hid lowX
  have HOK := hid okX
  clear hr2 hg2 HR1 HB1 HL1 HRD lowX
  obtain ⟨xc, hxc⟩ : ∃ xc, xc = cmc X := ⟨_, rfl⟩
  have HXL : Hid (xc.length = 63) := hid (by rw [hxc]; exact cmc_len okX.e8 okX.p8)
  have HXO : Hid (xc.toArray.all (·.oneCell') = true) := hid (by rw [hxc]; exact all_oneCell_toArray (cmc_one X))
  have HXC := hid hxc
  rw [← hxc]
  have TH : (w2.alloc (.cells zA63 41)).there w2.heap.size 0 63 := (Blk.new w2 (cmc zcm) 41).there 0 63 (by decide)
  obtain ⟨W3, hW3⟩ : ∃ W, W = (w2.alloc (.cells zA63 41)).setCells w2.heap.size 0 xc := ⟨_, rfl⟩
  have HW3 := hid hW3
  have hbA := below_a1C w2 (.cells zA63 41)
  have HR3 : Hid (Rd W3 W0.heap.size g l q.2.1 q.2.2) := hid (by rw [hW3]; exact (HR2.out.later hbA).sets2 (by have := HR2.out.block.2; omega))
  have HB3 : Hid (Blk W3 w.heap.size zs) := hid (by rw [hW3]; exact (HB2.out.later hbA).setsOther (by have := HB2.out.lt; omega) _ _)
  have HC3 : Hid (Blk W3 w2.heap.size xc) := hid (by rw [hW3]; exact (Blk.new w2 (cmc zcm) 41).wholeT (by rw [HXL.out]; rfl))
  have HL3 : Hid (Below w.heap.size w W3) := hid (by rw [hW3]; exact below_sets (by have := HB2.out.lt; omega) xc 0 (HL2.out.trans (hbA.mono HL2.out.size)))
  have HK3 : Hid (okCm W3 X) := hid (by rw [hW3]; exact (okX.later hbA).kept2 (okX.low (Nat.le_refl _)) (okX.low (Nat.le_refl _)) (Grown2.two (grown_sets w2.heap.size xc 0 _)))
  clear hW3 hbA HR2 HB2 HL2 hxc okX
  go_wp2_with (first
    | (refine wpList_store_asC rfl 41 (.tmp 5) (.tmp 10) rfl w2.heap.size 0 xc.toArray rfl rfl (by simpa [HXL.out] using TH) (by simpa [HXL.out] using info_cm) HXO.out W3 HW3.out ?_)
    | fail)
  clear TH HW3
  generalize w2.heap.size = gC at *
  refine (HEN.out _ g W3 HR3.out).mono ?_
  rintro r w4 ⟨rfl, nk, rfl⟩
  have HB4 := hid (HB3.out.drewN nk)
  have HC4 := hid (HC3.out.drewN nk)
  have HK4 := hid (HK3.out.later (below_drewN (Below.refl _ _) nk))
  have HL4 := hid (below_drewN HL3.out nk)
  clear HB3 HC3 HK3 HL3 HR3 HEN
  generalize W3.drewN nk = w4 at *
  have T8 := HB4.out.there 0 63 (by rw [HZL.out]; omega)
  have FIN := HB4.out.wholeT (ds := zs) rfl
  have okR := zcm_ok (w4.setCells w.heap.size 0 zs)
  have hbF : Below w.heap.size w (w4.setCells w.heap.size 0 zs) := below_sets (Nat.le_refl _) zs 0 HL4.out
  have O8 := HZO.out
  go_wp2_with (first
    | (refine wpList_store_mid rfl 41 (.tmp 2) (.tmp 15) rfl w.heap.size 0 zs.toArray rfl (by rw [HZS.out]; rfl) (by simpa [HZL.out] using T8) (by simpa [HZL.out] using info_cm) O8 ?_)
    | fail)
  exact bodyPost_ret (v := .tuple #[.agg zs.toArray, .int .i64 E]) (results_blk_tmp (q := 2) (p := 3) rfl _ _ w.heap.size zs _ (.int .i64 E) rfl rfl FIN hu rfl (by rw [HZL.out]; exact info_cm)) rfl ⟨⟨zcm, by rw [HT.out, HZS.out], okR, by rw [HT.out]; rfl, by decide⟩, hbF⟩
theorem cdec_any (A : Option Addr) (n c : Nat) (l : List UInt8) (w : World) (hn : l.length = n) (hs : Sees w w.heap.size A (bvs l)) (hm : n ≤ 4000) :
    Calls Tryz.prog 11 #[.slice A n c] w (CmDec w (decOut l)) := by
  by_cases he : (decOut l).2 = 0
  · exact cdec_z A n c l w hn hs hm he
  · exact cdec_n A n c l w hn hs hm he
structure RE (w : World) (base g gC : Nat) (l : List UInt8) (wx : World) (x : Cm) (a : Nat) (e : Int) : Prop where
  rd : Rr wx base g (l.drop a) e
  c : Blk wx gC (cmc x)
  z : Blk wx w.heap.size (cmc zcm)
  ok : okCm wx x
  n31 : x.n ≤ 31
  fl : lowCm gC x
  gr : w.grownBy wx (some g)
  hg : g < w.heap.size
  hC : w.heap.size < gC
section
variable {w wx w' : World} {base g gC : Nat} {l : List UInt8} {x : Cm} {a a' : Nat} {e e' : Int}
theorem RE.grow (h : RE w base g gC l wx x a e) (hr : Rr w' base g (l.drop a') e') (hG : wx.grownBy w' (some g)) : RE w base g gC l w' x a' e' := by
  have h1 := h.hg
  have hC := h.hC
  exact ⟨hr, h.c.kept hG (by intro e; injection e with e; omega), h.z.kept hG (by intro e; injection e with e; omega), h.ok.kept2 (h.fl.far (by omega)) (h.fl.far (Nat.le_refl _)) (Grown2.one hG), h.n31, h.fl, h.gr.trans hG, h.hg, h.hC⟩
theorem RE.low (h : RE w base g gC l wx x a e) {x' : Cm} (hA : x'.A = x.A) (hn : x'.n = x.n) : lowCm gC x' := fun ad e hn' => h.fl ad (hA ▸ e) (hn ▸ hn')
theorem RE.puts (h : RE w base g gC l wx x a e) (x' : Cm) (ok' : okCm wx x') (n' : x'.n ≤ 31) (fl' : lowCm gC x') (o : Nat) (vs : List Value) (ho : o + vs.length ≤ 63) (hset : (cmc x).take o ++ vs ++ (cmc x).drop (o + vs.length) = cmc x') :
    RE w base g gC l (wx.setCells gC o vs) x' a e := by
  have h1 := h.hg
  have hC := h.hC
  have hG : Grown2 wx (wx.setCells gC o vs) g gC := Grown2.two (grown_sets gC vs o wx)
  have B := h.c.sets vs o (by rw [cmc_len h.ok.e8 h.ok.p8]; exact ho)
  rw [hset] at B
  exact ⟨h.rd.off (grown_sets gC vs o wx) (by omega), B, h.z.setsOther (by omega) _ _, ok'.kept2 (fl'.far (by omega)) (fl'.far (Nat.le_refl _)) hG, n', fl', (Grown2.trans (Grown2.one h.gr) hG).grown (by omega), h.hg, h.hC⟩
theorem RE.put (h : RE w base g gC l wx x a e) (x' : Cm) (ok' : okCm wx x') (n' : x'.n ≤ 31) (fl' : lowCm gC x') (j : Nat) (v : Value) (hset : (cmc x).set j v = cmc x') :
    RE w base g gC l (wx.setCell ⟨gC, j, none⟩ v) x' a e := by
  have h1 := h.hg
  have hC := h.hC
  have hG : Grown2 wx (wx.setCell ⟨gC, j, none⟩ v) g gC := Grown2.two (grown_setCell wx gC j v)
  have B := h.c.set j v
  rw [hset] at B
  exact ⟨h.rd.off (grown_setCell wx gC j v) (by omega), B, h.z.setOther _ _ (by omega), ok'.kept2 (fl'.far (by omega)) (fl'.far (Nat.le_refl _)) hG, n', fl', (Grown2.trans (Grown2.one h.gr) hG).grown (by omega), h.hg, h.hC⟩
theorem RE.num (h : RE w base g gC l wx x a e) (hm : l.length ≤ 4000) (m : Int) (q : Nat × Nat × Int) (hq : q = numOut l a e m) (k : Int) (hk : k = (q.1 : Int)) :
    Calls Tryz.prog 22 #[.pointer (some ⟨g, 0, none⟩), .int .i64 m] wx fun r w' => r = .returned (.int .i64 k) ∧ RE w base g gC l w' x q.2.1 q.2.2 := by
  subst hk
  subst hq
  refine (rr_numd base g l a e m wx h.rd hm).mono ?_
  rintro r w' ⟨rfl, hr, hG⟩
  exact ⟨rfl, h.grow hr hG⟩
theorem RE.abv (h : RE w base g gC l wx x a e) (hm : l.length ≤ 4000) (m : Int) (q : Nat × Nat × Int) (hq : q = abvOut l a e m) (k : Int) (hk : k = (q.1 : Int)) :
    Calls Tryz.prog 20 #[.pointer (some ⟨g, 0, none⟩), .int .i64 m] wx fun r w' => r = .returned (.int .i64 k) ∧ RE w base g gC l w' x q.2.1 q.2.2 := by
  subst hk
  subst hq
  refine (rr_abvE base g l a e m wx h.rd hm).mono ?_
  rintro r w' ⟨rfl, hr, hG⟩
  exact ⟨rfl, h.grow hr hG⟩
theorem RE.edit (h : RE w base g gC l wx x a e) (ha : a ≤ l.length) (hm : l.length ≤ 4000) (q : (Int × Int × Int × Int × Int × List V3) × Nat × Int) (hq : q = editOut l a e) (cs : Array Value) (hk : cs = (ec6 q.1).toArray) :
    Calls Tryz.prog 21 #[.pointer (some ⟨g, 0, none⟩)] wx fun r w' => r = .returned (.agg cs) ∧ RE w base g gC l w' x q.2.1 q.2.2 := by
  subst hk
  subst hq
  refine (rr_edit base g l a e wx h.rd ha hm).mono ?_
  rintro r w' ⟨rfl, hr, hG⟩
  exact ⟨rfl, h.grow hr hG⟩
theorem RE.patch (h : RE w base g gC l wx x a e) (ha : a ≤ l.length) (hm : l.length ≤ 4000) (q : (Int × Int × List V3) × Nat × Int) (hq : q = patOut l a e) (cs : Array Value) (hk : cs = (pc3 q.1).toArray) :
    Calls Tryz.prog 23 #[.pointer (some ⟨g, 0, none⟩)] wx fun r w' => r = .returned (.agg cs) ∧ RE w base g gC l w' x q.2.1 q.2.2 := by
  subst hk
  subst hq
  refine (rr_patchE base g l a e wx h.rd ha hm).mono ?_
  rintro r w' ⟨rfl, hr, hG⟩
  exact ⟨rfl, h.grow hr hG⟩
theorem RE.filt (h : RE w base g gC l wx x a e) (ha : a ≤ l.length) (hm : l.length ≤ 4000) (q : List Nd × Nat × Int) (hq : q = filtOut l a e) (n : Nat) (hn : n = q.1.length) :
    Calls Tryz.prog 24 #[.pointer (some ⟨g, 0, none⟩)] wx fun r w' => ∃ A c, r = .returned (.slice A n c) ∧ okCm w' { x with A := A, n := n, c := c, f := q.1 } ∧ lowCm gC { x with A := A, n := n, c := c, f := q.1 } ∧ RE w base g gC l w' x q.2.1 q.2.2 := by
  subst hn
  subst hq
  have hlt := h.c.lt
  refine (rr_filter base g l a e wx h.rd ha hm).mono ?_
  rintro r w' ⟨⟨A, c, rfl, ho⟩, hr, hG⟩
  refine ⟨A, c, rfl, ?_, ?_, h.grow hr hG⟩
  · have hc := row_capC ho
    exact ⟨h.ok.e8, h.ok.p8, rfl, hc.1, hc.2, row_sees ho⟩
  · intro ad e hp
    have e' : A = some ad := e
    have := (World.ownsRow.lt ho ad.block (by rw [e']; rfl)).1
    omega
def CmReadR (w : World) (base g : Nat) (l : List UInt8) (q : Cm × Nat × Int) : Ending → World → Prop := fun r w' => (∃ x : Cm, r = .returned (.agg (cmc x).toArray) ∧ okCm w' x ∧ cab x = q.1 ∧ x.n ≤ 31 ∧ lowCm w.heap.size x) ∧ Rr w' base g (l.drop q.2.1) q.2.2 ∧ w.grownBy w' (some g)
end
theorem rcread_0 (base g : Nat) (l : List UInt8) (a : Nat) (e : Int) (w : World) (h : Rr w base g (l.drop a) e) (ha : a ≤ l.length) (hm : l.length ≤ 4000) (hk : (roA l a e).1 = 0) :
    Calls Tryz.prog 8 #[.pointer (some ⟨g, 0, none⟩)] w (CmReadR w base g l (cmOut l a e)) := by
  have hu := Tryz.underlying41
  have hgl := h.block.2
  have HA := Lib.hid (fun (wz : World) (hz : Rr wz base g (l.drop a) e) => (rr_abvE base g l a e 5 wz hz hm).mono (R' := fun r w' => r = .returned (.int .i64 0) ∧ Rr w' base g (l.drop (roA l a e).2.1) (roA l a e).2.2 ∧ wz.grownBy w' (some g)) (by
    rintro r w' ⟨rfl, hr, hG⟩
    exact ⟨by rw [show (abvOut l a e 5).1 = 0 from hk]; rfl, hr, hG⟩))
  obtain ⟨T, hT⟩ : ∃ T, T = cmOut l a e := ⟨_, rfl⟩
  have hT2 : T = (if (roRaw l a e).2.2 = 0 then (roRaw l a e).1 else zcm, (roRaw l a e).2.1, (roRaw l a e).2.2) := hT
  rw [← hT]
  have at0 : (roA l a e).2.1 ≤ l.length := abvOut_at _ _ _ _ ha
  rw [ro_0 hk] at hT2
  have hez := roA_0 hk
  simp only at hT2
  rw [if_neg hez] at hT2
  obtain ⟨q0, hq0⟩ : ∃ q, q = roA l a e := ⟨_, rfl⟩
  rw [← hq0] at HA at0
  obtain ⟨q1, hq1⟩ : ∃ q, q = roD l a e := ⟨_, rfl⟩
  have eq1 : q1 = numOut l q0.2.1 q0.2.2 5 := by rw [hq1, hq0]; rfl
  have at1 : q1.2.1 ≤ l.length := by rw [eq1]; exact numOut_at _ _ _ _ at0
  obtain ⟨k1, hk1⟩ : ∃ k : Int, k = (q1.1 : Int) := ⟨_, rfl⟩
  obtain ⟨q2, hq2⟩ : ∃ q, q = roR l a e := ⟨_, rfl⟩
  have eq2 : q2 = abvOut l q1.2.1 q1.2.2 1099511627776 := by rw [hq2, hq1]; rfl
  have at2 : q2.2.1 ≤ l.length := by rw [eq2]; exact abvOut_at _ _ _ _ at1
  obtain ⟨k2, hk2⟩ : ∃ k : Int, k = (q2.1 : Int) := ⟨_, rfl⟩
  have z1 : q1 = (0, q0.2.1, q0.2.2) := by rw [eq1]; unfold numOut; rw [if_pos (by rw [hq0]; exact hez)]
  have z2 : q2.2 = (q0.2.1, q0.2.2) := by
    rw [eq2, z1]
    have h0 : q0.2.2 ≠ 0 := by rw [hq0]; exact hez
    unfold abvOut numOut
    simp only
    rw [if_pos h0]
    simp only [if_true]
    unfold failOut
    rw [if_neg h0]
  have hT3 : T = (zcm, q2.2.1, q2.2.2) := by rw [z2, hT2, hq0]
  have hez2 : q2.2.2 ≠ 0 := by rw [z2, hq0]; exact hez
  have HT := hid hT3
  have HEZ := hid hez2
  clear z1 z2 hT3 hez2 hez
  have EQ1 := hid eq1
  have HK1 := hid hk1
  have EQ2 := hid eq2
  have HK2 := hid hk2
  clear eq1 hq1 eq2 hq2 hk1 hk2 hq0 hT hT2 hk ha
  obtain ⟨zs, hzs⟩ : ∃ zs, zs = cmc zcm := ⟨_, rfl⟩
  have HZL : Hid (zs.length = 63) := hid (by rw [hzs]; rfl)
  have HZO : Hid (zs.toArray.all (·.oneCell') = true) := hid (by rw [hzs]; exact all_oneCell_toArray (cmc_one zcm))
  have HZS := hid hzs
  obtain ⟨x0, hx0⟩ : ∃ c, c = cmc { zcm with kd := 0 } := ⟨_, rfl⟩
  have HX0 := hid hx0
  have HX0L : Hid (x0.length = 63) := hid (by rw [hx0]; rfl)
  have HX0O : Hid (x0.toArray.all (·.oneCell') = true) := hid (by rw [hx0]; exact all_oneCell_toArray (cmc_one _))
  obtain ⟨W0, hW0⟩ : ∃ W0, W0 = w.alloc (.cells zA63 41) := ⟨_, rfl⟩
  have HW0 := hid hW0
  have HR0 : Hid (Rr W0 base g (l.drop a) e) := hid (by rw [hW0]; exact h.later (below_a1C w _))
  have HB0 : Hid (Blk W0 w.heap.size (cmc zcm)) := hid (by rw [hW0]; exact Blk.new w (cmc zcm) 41)
  have HG0 : Hid (w.grownBy W0 (some g)) := hid (by rw [hW0]; exact grown_onto (World.grownBy.refl w (some g)) (below_a1C w _))
  have HGL := hid hgl
  have HZ0 : Hid (W0.heap.size = w.heap.size + 1) := hid (by rw [hW0]; simp)
  clear hW0 hx0 hzs hgl h
  go_enter Tryz.func8, Tryz.ntmps8
  go_wp2_with fail
  rw [← HW0.out]
  clear HW0
  refine (HA.out W0 HR0.out).mono ?_
  rintro r w1 ⟨rfl, hr1, hG1⟩
  have HR1 := hid hr1
  have HB1 := hid (HB0.out.kept hG1 (by have := HGL.out; intro e; injection e with e; omega))
  have HG1 := hid (HG0.out.trans hG1)
  have HS1 : Hid (w.heap.size < w1.heap.size) := hid (by have := hG1.size; have := HZ0.out; omega)
  clear hr1 hG1 HA HR0 HB0 HG0 HZ0
  have TH : (w1.alloc (.cells zA63 41)).there w1.heap.size 0 63 := (Blk.new w1 (cmc zcm) 41).there 0 63 (by decide)
  obtain ⟨W2, hW2⟩ : ∃ W2, W2 = (w1.alloc (.cells zA63 41)).setCells w1.heap.size 0 x0 := ⟨_, rfl⟩
  have HW2 := hid hW2
  have hbA := below_a1C w1 (.cells zA63 41)
  have HR : Hid (RE w base g w1.heap.size l W2 { zcm with kd := 0 } q0.2.1 q0.2.2) := Lib.hid (by
    have hlt := HR1.out.block.2
    rw [hW2]
    refine ⟨(HR1.out.later hbA).off (grown_sets w1.heap.size x0 0 _) (by omega), ?_, (HB1.out.later hbA).setsOther (by have := HS1.out; omega) _ _, ⟨rfl, rfl, rfl, Nat.le_refl _, Nat.zero_le _, Sees.nil_⟩, Nat.zero_le _, fun ad e hn => (by cases e), grown_new (grown_onto HG1.out hbA) (grown_sets w1.heap.size x0 0 _) (Nat.le_of_lt HS1.out), HGL.out, HS1.out⟩
    rw [← HX0.out]
    exact (Blk.new w1 (cmc zcm) 41).wholeT (by rw [HX0L.out]; rfl))
  have k0 : W2.cell? ⟨w1.heap.size, 0, none⟩ = some (.int .i64 0) := HR.out.c.cell (j := 0) rfl
  clear hW2 hbA HR1 HB1 HG1 HS1
  go_wp2_with (first
    | (refine wpList_store_asC rfl 41 (.tmp 3) (.tmp 6) rfl w1.heap.size 0 x0.toArray rfl (by rw [HX0.out]; rfl) (by simpa [HX0L.out] using TH) (by simpa [HX0L.out] using info_cm) HX0O.out W2 HW2.out ?_)
    | fail)
  clear TH HW2 HX0 HX0L HX0O k0
  generalize w1.heap.size = gC at *
  refine (HR.out.num hm 5 q1 EQ1.out k1 HK1.out).mono ?_
  rintro r v1 ⟨rfl, HR1⟩
  have HR := hid HR1
  clear HR1
  have cz := HR.out.c.cell (cm_at HR.out.ok.e8 HR.out.ok.p8).2.1
  have fz := HR.out.c.frozen 30
  obtain ⟨V1, hW⟩ : ∃ W, W = v1.setCell ⟨gC, 30, none⟩ (.int .i64 k1) := ⟨_, rfl⟩
  have HW := hid hW
  have HR1 := HR.out.put { zcm with kd := 0, dv := k1 } ⟨HR.out.ok.e8, HR.out.ok.p8, HR.out.ok.len, HR.out.ok.cap, HR.out.ok.max, HR.out.ok.see⟩ HR.out.n31 (HR.out.low rfl rfl) 30 (.int .i64 k1) (cm_sets HR.out.ok.e8 HR.out.ok.p8 k1 0#32).2.1
  rw [← hW] at HR1
  have HR := hid HR1
  clear hW HR1
  have k0 : V1.cell? ⟨gC, 0, none⟩ = some (.int .i64 0) := HR.out.c.cell (cm_at HR.out.ok.e8 HR.out.ok.p8).1
  go_wp2_with (first
    | (refine wpList_store_i rfl 3 (.tmp 11) (.tmp 10) rfl gC 30 .i64 k1 rfl rfl _ info_i cz fz V1 HW.out ?_)
    | fail)
  clear HW k0 cz fz
  refine (HR.out.abv hm 1099511627776 q2 EQ2.out k2 HK2.out).mono ?_
  rintro r v2 ⟨rfl, HR1⟩
  have HR := hid HR1
  clear HR1
  have cz := HR.out.c.cell (cm_at HR.out.ok.e8 HR.out.ok.p8).2.2.1
  have fz := HR.out.c.frozen 31
  obtain ⟨V2, hW⟩ : ∃ W, W = v2.setCell ⟨gC, 31, none⟩ (.int .i64 k2) := ⟨_, rfl⟩
  have HW := hid hW
  have HR1 := HR.out.put { zcm with kd := 0, dv := k1, rq := k2 } ⟨HR.out.ok.e8, HR.out.ok.p8, HR.out.ok.len, HR.out.ok.cap, HR.out.ok.max, HR.out.ok.see⟩ HR.out.n31 (HR.out.low rfl rfl) 31 (.int .i64 k2) (cm_sets HR.out.ok.e8 HR.out.ok.p8 k2 0#32).2.2.1
  rw [← hW] at HR1
  have HR := hid HR1
  clear hW HR1
  have k0 : V2.cell? ⟨gC, 0, none⟩ = some (.int .i64 0) := HR.out.c.cell (cm_at HR.out.ok.e8 HR.out.ok.p8).1
  obtain ⟨X, hX⟩ : ∃ X : Cm, X = { zcm with kd := 0, dv := k1, rq := k2 } := ⟨_, rfl⟩
  rw [← hX] at HR
  clear hX
  have kE : V2.cell? ⟨g, 1, none⟩ = some (.int .i64 q2.2.2) := HR.out.rd.facts.2.1
  obtain ⟨e5, he5⟩ : ∃ z, z = q2.2.2 := ⟨_, rfl⟩
  rw [← he5] at kE
  have HE5 := hid he5
  clear he5
  have he : e5 ≠ 0 := by rw [HE5.out]; exact HEZ.out
  have ke : (e5 != 0) = true := by simpa using he
  have RB := HR.out.z
  have T8 := RB.there 0 63 (by decide)
  have FIN := RB.wholeT (ds := zs) HZL.out
  have okR := zcm_ok (V2.setCells w.heap.size 0 zs)
  have lowR : lowCm w.heap.size zcm := fun ad e hn => by cases e
  have R9 := HR.out.rd.off (grown_sets w.heap.size zs 0 V2) (by have := HGL.out; omega)
  have G9 := grown_new HR.out.gr (grown_sets w.heap.size zs 0 V2) (Nat.le_refl _)
  have O8 := HZO.out
  clear RB he
  go_wp2_with (first
    | (refine wpList_store_i rfl 3 (.tmp 14) (.tmp 13) rfl gC 31 .i64 k2 rfl rfl _ info_i cz fz V2 HW.out ?_)
    | (refine wpList_store_mid rfl 41 (.tmp 2) (.tmp 52) rfl w.heap.size 0 zs.toArray rfl (by rw [HZS.out]; rfl) (by simpa [HZL.out] using T8) (by simpa [HZL.out] using info_cm) O8 ?_)
    | fail)
  exact bodyPost_ret (v := .agg zs.toArray) (tok_results (q := 2) rfl _ _ w.heap.size zs _ rfl FIN hu rfl (by rw [HZL.out]; exact info_cm)) rfl ⟨⟨zcm, by rw [HZS.out], okR, by rw [HT.out]; rfl, Nat.zero_le _, lowR⟩, by rw [HT.out]; exact R9, G9⟩
end Go.Proofs.YtnhcjadkbogioaaGreat
