/- Commands: which may be, by the document: 2, g. -/
import Derived.Test.YtnhcjadkbogioaaJ19
import Derived.Test.YtnhcjadkbogioaaJ20
import Derived.Test.YtnhcjadkbogioaaJ21
import Derived.WalkKit
import Derived.WalkLawsBesides
import Derived.Lib.IndexMore
import Derived.Test.YtnhcjadkbogioaaJ4
import Derived.Test.YtnhcjadkbogioaaJ3
import Derived.Test.YtnhcjadkbogioaaJ9
import Derived.Test.YtnhcjadkbogioaaJ13
import Derived.Test.YtnhcjadkbogioaaJ7
import Derived.Test.YtnhcjadkbogioaaJ8
import Derived.Test.YtnhcjadkbogioaaJ15
set_option maxRecDepth 100000
set_option linter.unusedVariables false
set_option linter.unusedSimpArgs false
set_option maxHeartbeats 6400000
namespace Go.Proofs.Ytnhcjadkbogioaa
open Go Go.RowKit OctM
theorem rccheck_2g (x : Cm) (w : World) (h : okCm w x) (hk : x.kd = 2) (hg : 0 ≤ x.dv) (hl : x.dv < 6) (r1 : 1 ≤ x.rq) (r2 : x.rq ≤ 1099511627776) (z : cz (y2 x)) (i1 : 1 ≤ x.id) (hx : x.id < 1073741824) (b1 : 1 ≤ x.bs) (b2 : x.bs ≤ 1099511627776) (hp : pchk x.pm (x.pl.toNat : Int) x.pf = 0) :
    Calls Try.prog 15 #[.agg (cmc x).toArray] w fun e w' => e = .returned (.bool (decide (cok x))) ∧ Below w.heap.size w w' := by
  have hue := Try.underlying29
  have hup := Try.underlying27
  have huc := Try.underlying32
  obtain ⟨hs1, hth⟩ := CkSt.new w x h.e8 h.p8
  have B0 := Blk.new w (cmc x) 32
  have RG0 := B0.range 0 (cmc x) (by rw [List.drop_zero, List.take_length])
  have honc := all_oneCell_toArray (cmc_one x)
  have HLC := hid (cmc_len h.e8 h.p8)
  have HPX := hid (cm_at h.e8 h.p8)
  obtain ⟨xc, hxc⟩ : ∃ c, c = cmc x := ⟨_, rfl⟩
  obtain ⟨W1, hW1⟩ : ∃ W1, W1 = ((w.alloc (.cells (cmc x).toArray 32)).alloc (.cells zA63 32)).setCells (w.heap.size + 1) 0 (cmc x) := ⟨_, rfl⟩
  rw [← hW1] at hs1
  rw [← hxc] at hW1 RG0 honc HLC hth ⊢
  have HS1 := hid hs1
  have HW1 := hid hW1
  have HON := hid honc
  have TH1 := hth
  obtain ⟨R, hR⟩ : ∃ R, R = decide (cok x) := ⟨_, rfl⟩
  rw [← hR]
  have HR := hid hR
  have e1 : (x.kd == 1) = false := by rw [hk]; rfl
  have e5 : (x.kd == 5) = false := by rw [hk]; rfl
  have e2 : (x.kd == 2) = true := by rw [hk]; rfl
  have e3 : (x.kd == 3) = false := by rw [hk]; rfl
  have e4 : (x.kd == 4) = false := by rw [hk]; rfl
  have ka_kd := HS1.out.a.cell HPX.out.1
  clear hs1 hth hxc hW1 honc hR B0
  have S2 := HS1.out.set 30 (.int .i64 0) (cm_sets HS1.out.y1 HS1.out.y2 0 0#32).2.1 HS1.out.y1 HS1.out.y2
  have S2 : CkSt w x _ (W1.setCell ⟨w.heap.size + 1, 30, none⟩ (.int .i64 0)) := S2
  obtain ⟨W2, hW2⟩ : ∃ W, W = W1.setCell ⟨w.heap.size + 1, 30, none⟩ (.int .i64 0) := ⟨_, rfl⟩
  rw [← hW2] at S2
  have C30 := hid (HS1.out.b.cell (cm_at HS1.out.y1 HS1.out.y2).2.1)
  have F30 := hid (HS1.out.b.frozen 30)
  have HW2 := hid hW2
  have S2 := hid S2
  clear hW2
  have S3 := S2.out.set 31 (.int .i64 0) (cm_sets S2.out.y1 S2.out.y2 0 0#32).2.2.1 S2.out.y1 S2.out.y2
  have S3 : CkSt w x _ (W2.setCell ⟨w.heap.size + 1, 31, none⟩ (.int .i64 0)) := S3
  obtain ⟨W3, hW3⟩ : ∃ W, W = W2.setCell ⟨w.heap.size + 1, 31, none⟩ (.int .i64 0) := ⟨_, rfl⟩
  rw [← hW3] at S3
  have C31 := hid (S2.out.b.cell (cm_at S2.out.y1 S2.out.y2).2.2.1)
  have F31 := hid (S2.out.b.frozen 31)
  have HW3 := hid hW3
  have S3 := hid S3
  clear hW3
  have kc_kd := S3.out.a.cell HPX.out.1
  have kc_30 := S3.out.a.cell HPX.out.2.1
  have kc_31 := S3.out.a.cell HPX.out.2.2.1
  have S4 := S3.out.set 32 (.int .i64 0) (cm_sets S3.out.y1 S3.out.y2 0 0#32).2.2.2.1 S3.out.y1 S3.out.y2
  have S4 : CkSt w x _ (W3.setCell ⟨w.heap.size + 1, 32, none⟩ (.int .i64 0)) := S4
  obtain ⟨W4, hW4⟩ : ∃ W, W = W3.setCell ⟨w.heap.size + 1, 32, none⟩ (.int .i64 0) := ⟨_, rfl⟩
  rw [← hW4] at S4
  have C32 := hid (S3.out.b.cell (cm_at S3.out.y1 S3.out.y2).2.2.2.1)
  have F32 := hid (S3.out.b.frozen 32)
  have HW4 := hid hW4
  have S4 := hid S4
  clear hW4
  have S5 := S4.out.set 33 (.int .i64 0) (cm_sets S4.out.y1 S4.out.y2 0 0#32).2.2.2.2.1 S4.out.y1 S4.out.y2
  have S5 : CkSt w x _ (W4.setCell ⟨w.heap.size + 1, 33, none⟩ (.int .i64 0)) := S5
  obtain ⟨W5, hW5⟩ : ∃ W, W = W4.setCell ⟨w.heap.size + 1, 33, none⟩ (.int .i64 0) := ⟨_, rfl⟩
  rw [← hW5] at S5
  have C33 := hid (S4.out.b.cell (cm_at S4.out.y1 S4.out.y2).2.2.2.2.1)
  have F33 := hid (S4.out.b.frozen 33)
  have HW5 := hid hW5
  have S5 := hid S5
  clear hW5
  have hs6 := S5.out.setP
  have THP := S5.out.b.there 35 26 (by rw [cmc_len S5.out.y1 S5.out.y2]; omega)
  obtain ⟨W6, hW6⟩ : ∃ W, W = W5.setCells (w.heap.size + 1) 35 (pcells 0 0 zeros) := ⟨_, rfl⟩
  rw [← hW6] at hs6
  have hs6 : CkSt w x (q2 x) W6 := hs6
  have HS6 := hid hs6
  have HW6 := hid hW6
  have HONP := hid (all_oneCell_toArray (pcells_one 0 0 zeros))
  clear hs6 hW6
  have hzz := rczero_any (q2 x) W6 ⟨HS6.out.y1, HS6.out.y2, h.len, h.cap, h.max, ((h.see.below HS6.out.be).more HS6.out.be.size)⟩
  have RGZ := HS6.out.b.range 0 (cmc (q2 x)) (by rw [List.drop_zero, List.take_length])
  have HLZ := hid (cmc_len HS6.out.y1 HS6.out.y2)
  rw [decide_eq_true (show cz (q2 x) from z)] at hzz
  obtain ⟨yc, hyc⟩ : ∃ c, c = cmc (q2 x) := ⟨_, rfl⟩
  rw [← hyc] at hzz RGZ HLZ
  have HZZ := hid hzz
  clear hzz hyc
  have q_hg : decide (x.dv < 0) = false := decide_eq_false (by omega)
  have q_hl : decide (6 ≤ x.dv) = false := decide_eq_false (by omega)
  have q_r1 : decide (x.rq < 1) = false := decide_eq_false (by omega)
  have q_r2 : decide (1099511627776 < x.rq) = false := decide_eq_false (by omega)
  have q_i1 : decide (1 ≤ x.id) = true := decide_eq_true (by omega)
  have q_hx : decide (x.id < 1073741824) = true := decide_eq_true (by omega)
  have q_b1 : decide (1 ≤ x.bs) = true := decide_eq_true (by omega)
  have q_b2 : decide (x.bs ≤ 1099511627776) = true := decide_eq_true (by omega)
  have HPC : Hid (∀ wx : World, Calls Try.prog 38 #[.agg (cmP x).toArray] wx fun e w' => e = .returned (.int .i64 (pchk x.pm (x.pl.toNat : Int) x.pf)) ∧ Below wx.heap.size wx w') := hid (fun wx => rpcheck_any x.pm (x.pl.toNat : Int) x.pf wx h.p8)
  have HPL := hid (cmP_len h.p8)
  obtain ⟨ip, hip⟩ : ∃ c, c = pchk x.pm (x.pl.toNat : Int) x.pf := ⟨_, rfl⟩
  rw [← hip] at HPC
  have HIP := hid hip
  clear hip
  have b0 : (ip == 0) = true := by rw [HIP.out]; simp [hp]
  have hHT : R = true := by rw [HR.out]; exact decide_eq_true ((cok_2 hk).2 ⟨⟨hg, hl⟩, ⟨r1, r2⟩, ⟨i1, hx⟩, ⟨b1, b2⟩, hp, z⟩)
  have HT := hid hHT
  clear hHT
  clear hk
  go_enter Try.func15, Try.ntmps15
  go_wp2_with (first
    | (refine wpList_load_mid rfl 32 (.tmp 1) rfl w.heap.size 0 rfl xc _ RG0 huc rfl (by rw [HLC.out]; exact info_cm) ?_
       simp only [pq4])
    | (refine wpList_store_asC rfl 32 (.tmp 3) (.tmp 4) rfl (w.heap.size + 1) 0 xc.toArray rfl rfl (by simpa [HLC.out] using TH1) (by simpa [HLC.out] using info_cm) HON.out W1 HW1.out ?_)
    | (refine wpList_store_i rfl 3 (.tmp 34) (.const (.int .i64 0)) rfl (w.heap.size + 1) 30 .i64 0 rfl rfl _ info_i C30.out F30.out W2 HW2.out ?_)
    | (refine wpList_store_i rfl 3 (.tmp 35) (.const (.int .i64 0)) rfl (w.heap.size + 1) 31 .i64 0 rfl rfl _ info_i C31.out F31.out W3 HW3.out ?_)
    | (refine wpList_store_i rfl 3 (.tmp 58) (.const (.int .i64 0)) rfl (w.heap.size + 1) 32 .i64 0 rfl rfl _ info_i C32.out F32.out W4 HW4.out ?_)
    | (refine wpList_store_i rfl 3 (.tmp 59) (.const (.int .i64 0)) rfl (w.heap.size + 1) 33 .i64 0 rfl rfl _ info_i C33.out F33.out W5 HW5.out ?_)
    | (refine wpList_store_asC rfl 27 (.tmp 61) (.tmp 60) rfl (w.heap.size + 1) 35 (pcells 0 0 zeros).toArray rfl rfl THP info_patch HONP.out W6 HW6.out ?_)
    | (refine wpList_load_mid rfl 32 (.tmp 3) rfl (w.heap.size + 1) 0 rfl yc _ RGZ huc rfl (by rw [HLZ.out]; exact info_cm) ?_; simp only [pq4])
    | fail)
  refine HZZ.out.mono ?_
  rintro e wz ⟨rfl, hbz⟩
  have HSZ := hid (HS6.out.later hbz)
  have kz_32 := HSZ.out.a.cell HPX.out.2.2.2.1
  have kz_33 := HSZ.out.a.cell HPX.out.2.2.2.2.1
  have HBE := hid HSZ.out.be
  clear hbz
  have RP := HSZ.out.a.range 35 (cmP x) (cm_patch h.e8 h.p8)
  obtain ⟨xp, hxp⟩ : ∃ c, c = cmP x := ⟨_, rfl⟩
  rw [← hxp] at HPC HPL RP
  clear hxp
  go_wp2_with (first
    | (refine wpList_load_g (by rfl) 27 (.tmp 85) rfl w.heap.size 35 rfl xp _ RP hup rfl (by rw [HPL.out]; exact info_patch) ?_; simp only [pq4])
    | fail)
  refine (HPC.out _).mono ?_
  rintro e wy ⟨rfl, hby⟩
  have HBE := hid (HSZ.out.later hby).be
  clear hby kz_32 kz_33
  go_wp2_with fail
  go_ret
  exact ⟨by first | rfl | (rw [HT.out]; rfl), HBE.out⟩
theorem rccheck_1 (x : Cm) (w : World) (h : okCm w x) (hk : x.kd = 1) :
    Calls Try.prog 15 #[.agg (cmc x).toArray] w fun e w' => e = .returned (.bool (decide (cok x))) ∧ Below w.heap.size w w' := by
  by_cases z : cz (y1 x)
  case neg => exact rccheck_1a x w h hk z
  by_cases he : echk x.ek x.eid x.eg x.em (x.el.toNat : Int) x.ef = 0
  case neg => exact rccheck_1b x w h hk z he
  exact rccheck_1c x w h hk z he
theorem rccheck_5 (x : Cm) (w : World) (h : okCm w x) (hk : x.kd = 5) :
    Calls Try.prog 15 #[.agg (cmc x).toArray] w fun e w' => e = .returned (.bool (decide (cok x))) ∧ Below w.heap.size w w' := by
  by_cases z : cz (y5 x)
  case neg => exact rccheck_5a x w h hk z
  by_cases k0 : 0 ≤ x.kp
  case neg => exact rccheck_5b x w h hk z k0
  by_cases k1 : x.kp ≤ 1099511627776
  case neg => exact rccheck_5c x w h hk z k0 k1
  exact rccheck_5d x w h hk z k0 k1
theorem rccheck_3 (x : Cm) (w : World) (h : okCm w x) (hk : x.kd = 3) (hg : 0 ≤ x.dv) (hl : x.dv < 6) (r1 : 1 ≤ x.rq) (r2 : x.rq ≤ 1099511627776) :
    Calls Try.prog 15 #[.agg (cmc x).toArray] w fun e w' => e = .returned (.bool (decide (cok x))) ∧ Below w.heap.size w w' := by
  by_cases z : cz (y3 x)
  case neg => exact rccheck_3a x w h hk hg hl r1 r2 z
  by_cases hp : lchk x.f = 0
  case neg => exact rccheck_3b x w h hk hg hl r1 r2 z hp
  by_cases hm : x.ms.toNat ≤ 511
  case neg => exact rccheck_3c x w h hk hg hl r1 r2 z hp hm
  exact rccheck_3d x w h hk hg hl r1 r2 z hp hm
theorem rccheck_2 (x : Cm) (w : World) (h : okCm w x) (hk : x.kd = 2) (hg : 0 ≤ x.dv) (hl : x.dv < 6) (r1 : 1 ≤ x.rq) (r2 : x.rq ≤ 1099511627776) :
    Calls Try.prog 15 #[.agg (cmc x).toArray] w fun e w' => e = .returned (.bool (decide (cok x))) ∧ Below w.heap.size w w' := by
  by_cases z : cz (y2 x)
  case neg => exact rccheck_2a x w h hk hg hl r1 r2 z
  by_cases i1 : 1 ≤ x.id
  case neg => exact rccheck_2b x w h hk hg hl r1 r2 z i1
  by_cases hx : x.id < 1073741824
  case neg => exact rccheck_2c x w h hk hg hl r1 r2 z i1 hx
  by_cases b1 : 1 ≤ x.bs
  case neg => exact rccheck_2d x w h hk hg hl r1 r2 z i1 hx b1
  by_cases b2 : x.bs ≤ 1099511627776
  case neg => exact rccheck_2e x w h hk hg hl r1 r2 z i1 hx b1 b2
  by_cases hp : pchk x.pm (x.pl.toNat : Int) x.pf = 0
  case neg => exact rccheck_2f x w h hk hg hl r1 r2 z i1 hx b1 b2 hp
  exact rccheck_2g x w h hk hg hl r1 r2 z i1 hx b1 b2 hp
theorem rccheck_any (x : Cm) (w : World) (h : okCm w x) :
    Calls Try.prog 15 #[.agg (cmc x).toArray] w fun e w' => e = .returned (.bool (decide (cok x))) ∧ Below w.heap.size w w' := by
  by_cases hk1 : x.kd = 1
  · exact rccheck_1 x w h hk1
  by_cases hk5 : x.kd = 5
  · exact rccheck_5 x w h hk5
  by_cases hg : 0 ≤ x.dv
  case neg => exact rccheck_Na x w h hk1 hk5 hg
  by_cases hl : x.dv < 6
  case neg => exact rccheck_Nb x w h hk1 hk5 hg hl
  by_cases r1 : 1 ≤ x.rq
  case neg => exact rccheck_Nc x w h hk1 hk5 hg hl r1
  by_cases r2 : x.rq ≤ 1099511627776
  case neg => exact rccheck_Nd x w h hk1 hk5 hg hl r1 r2
  by_cases hk2 : x.kd = 2
  · exact rccheck_2 x w h hk2 hg hl r1 r2
  by_cases hk3 : x.kd = 3
  · exact rccheck_3 x w h hk3 hg hl r1 r2
  by_cases hk4 : x.kd = 4
  · exact rccheck_4a x w h hk4 hg hl r1 r2
  · exact rccheck_0a x w h (by simp [hk1, hk2, hk3, hk4, hk5]) hg hl r1 r2
end Go.Proofs.Ytnhcjadkbogioaa
namespace Go.Proofs.Ytnhcjadkbogioaa
open Go
namespace ValM
end ValM
end Go.Proofs.Ytnhcjadkbogioaa
namespace Go.Proofs.Ytnhcjadkbogioaa
open Go Go.RowKit BitM ValM
theorem Blk.val {w : World} {g : Nat} {k n : Int} {s : ByteArray} (h : Blk w g (vcells (k, n, s))) : w.cell? ⟨g, 0, none⟩ = some (.int .i64 k) ∧ w.cell? ⟨g, 1, none⟩ = some (.int .i64 n) ∧ w.cell? ⟨g, 2, none⟩ = some (.string s) := ⟨h.cell rfl, h.cell rfl, h.cell rfl⟩
end Go.Proofs.Ytnhcjadkbogioaa
namespace Go.Proofs.Ytnhcjadkbogioaa
open Go Go.RowKit OctM
section
open ValM
end
def ee (x y : Cm) : Prop := x.ek = y.ek ∧ x.eid = y.eid ∧ x.eg = y.eg ∧ ((x.em.toNat : Int) = (y.em.toNat : Int) ∧ (x.el.toNat : Int) = (y.el.toNat : Int) ∧ x.ef = y.ef)
def pp2 (x y : Cm) : Prop := (x.pm.toNat : Int) = (y.pm.toNat : Int) ∧ (x.pl.toNat : Int) = (y.pl.toNat : Int) ∧ x.pf = y.pf
def csm (x y : Cm) : Prop := x.kd = y.kd ∧ ee x y ∧ x.dv = y.dv ∧ x.rq = y.rq ∧ x.id = y.id ∧ x.bs = y.bs ∧ x.kp = y.kp ∧ pp2 x y ∧ x.f = y.f ∧ (x.ms.toNat : Int) = (y.ms.toNat : Int)
noncomputable instance (x y : Cm) : Decidable (ee x y) := Classical.propDecidable _
noncomputable instance (x y : Cm) : Decidable (pp2 x y) := Classical.propDecidable _
noncomputable instance (x y : Cm) : Decidable (csm x y) := Classical.propDecidable _
theorem csm_self (x : Cm) : csm x x := ⟨rfl, ⟨rfl, rfl, rfl, rfl, rfl, rfl⟩, rfl, rfl, rfl, rfl, rfl, ⟨rfl, rfl, rfl⟩, rfl, rfl⟩
theorem info_fldC : (Try.prog.info? 25).map (·.size) = some 24 := by kernel_rfl
section
variable {x : Cm} (h1 : x.ef.length = 8) (h2 : x.pf.length = 8)
include h1 h2
theorem cm_fields : (fcells x.ef).length = 24 ∧ (fcells x.pf).length = 24 ∧ ((cmc x).drop 6).take (fcells x.ef).length = fcells x.ef ∧ ((cmc x).drop 37).take (fcells x.pf).length = fcells x.pf := by
  obtain ⟨kd, ek, eid, eg, em, el, ef, dv, rq, id, bs, kp, pm, pl, pf, A, n, c, f, ms⟩ := x
  obtain ⟨a1, a2, a3, a4, a5, a6, a7, a8, rfl⟩ := eight8 h1
  obtain ⟨b1, b2, b3, b4, b5, b6, b7, b8, rfl⟩ := eight8 h2
  exact ⟨rfl, rfl, rfl, rfl⟩
end
def cbig (x : Cm) : Bool := tooLong x.ef || tooLong x.pf || lbig x.f
theorem clarge_any (x : Cm) (w : World) (h : okCm w x) :
    Calls Try.prog 5 #[.agg (cmc x).toArray] w fun e w' => e = .returned (.bool (cbig x)) ∧ Below w.heap.size w w' := by
  have hu8 := Try.underlying25
  have HE : Hid (∀ wx : World, Calls Try.prog 17 #[.agg (fcells x.ef).toArray] wx fun e w' => e = .returned (.bool (tooLong x.ef)) ∧ Below wx.heap.size wx w') := hid (fun wx => large_any x.ef wx h.e8)
  have HP : Hid (∀ wx : World, Calls Try.prog 17 #[.agg (fcells x.pf).toArray] wx fun e w' => e = .returned (.bool (tooLong x.pf)) ∧ Below wx.heap.size wx w') := hid (fun wx => large_any x.pf wx h.p8)
  have HL : Hid (∀ wx : World, Below w.heap.size w wx → Calls Try.prog 18 #[.slice x.A x.n x.c] wx fun e w' => e = .returned (.bool (lbig x.f)) ∧ wx = w') := hid (fun wx hb => nlarge_any x.A x.n x.c x.f wx _ h.len (h.see.below hb))
  have B0 := Blk.new w (cmc x) 32
  have hb0 := below_a1C w (.cells (cmc x).toArray 32)
  obtain ⟨f1, f2, f3, f4⟩ := cm_fields h.e8 h.p8
  have RE := B0.range 6 (fcells x.ef) f3
  have HF4 := hid f4
  have HA61 := hid (cm_at h.e8 h.p8).2.2.2.2.2.2.1
  have HL1 := hid f1
  have HL2 := hid f2
  have HB0 := hid B0
  have HBE := hid hb0
  obtain ⟨xc, hxc⟩ : ∃ c, c = cmc x := ⟨_, rfl⟩
  obtain ⟨xe, hxe⟩ : ∃ c, c = fcells x.ef := ⟨_, rfl⟩
  obtain ⟨xp, hxp⟩ : ∃ c, c = fcells x.pf := ⟨_, rfl⟩
  obtain ⟨te, hte⟩ : ∃ c, c = tooLong x.ef := ⟨_, rfl⟩
  obtain ⟨tp, htp⟩ : ∃ c, c = tooLong x.pf := ⟨_, rfl⟩
  obtain ⟨lb, hlb⟩ : ∃ c, c = lbig x.f := ⟨_, rfl⟩
  have hR : cbig x = (te || tp || lb) := by rw [hte, htp, hlb]; rfl
  rw [hR]
  rw [← hte] at HE
  rw [← htp] at HP
  rw [← hlb] at HL
  rw [← hxe] at HE HL1 RE
  rw [← hxp] at HP HL2 HF4
  rw [← hxc] at RE HF4 HA61 HB0 HBE ⊢
  clear hxc hxe hxp hte htp hlb hR B0 hb0 f1 f2 f3 f4 h
  go_enter Try.func5, Try.ntmps5
  go_wp2_with (first
    | (refine wpList_load_g (by rfl) 25 (.tmp 5) rfl w.heap.size 6 rfl xe _ RE hu8 rfl (by rw [HL1.out]; exact info_fldC) ?_; simp only [pq4])
    | fail)
  refine (HE.out _).mono ?_
  rintro e w1 ⟨rfl, hb1⟩
  have HB1 := hid (HB0.out.later hb1)
  have HBE1 := hid (HBE.out.trans (hb1.mono HBE.out.size))
  have RP := HB1.out.range 37 xp HF4.out
  clear hb1 RE
  cases te with
  | true =>
    go_wp2_with fail
    go_ret
    exact ⟨rfl, HBE1.out⟩
  | false =>
    go_wp2_with (first
      | (refine wpList_load_g (by rfl) 25 (.tmp 10) rfl w.heap.size 37 rfl xp _ RP hu8 rfl (by rw [HL2.out]; exact info_fldC) ?_; simp only [pq4])
      | fail)
    refine (HP.out _).mono ?_
    rintro e w2 ⟨rfl, hb2⟩
    have HB2 := hid (HB1.out.later hb2)
    have HBE2 := hid (HBE1.out.trans (hb2.mono HBE1.out.size))
    have q61 := HB2.out.cell HA61.out
    clear hb2 RP
    cases tp with
    | true =>
      go_wp2_with fail
      go_ret
      exact ⟨rfl, HBE2.out⟩
    | false =>
      go_wp2_with fail
      refine (HL.out _ HBE2.out).mono ?_
      rintro e w3 ⟨rfl, rfl⟩
      go_wp2_with fail
      go_ret
      exact ⟨rfl, HBE2.out⟩
theorem cput_0 (AB : Option Addr) (nb cb : Nat) (lb : List UInt8) (x : Cm) (w : World) (hnb : lb.length = nb) (hsb : Sees w w.heap.size AB (bvs lb)) (hmb : nb ≤ 10000) (h : okCm w x) (hk : ¬ cok x) :
    Calls Try.prog 7 #[.slice AB nb cb, .agg (cmc x).toArray] w (GivesBytes w (lb ++ putC x)) := by
  have huc := Try.underlying32
  have B0 := Blk.new w (cmc x) 32
  have hb0 := below_a1C w (.cells (cmc x).toArray 32)
  have hck := ccheck_any x (w.alloc (.cells (cmc x).toArray 32)) (h.later hb0)
  have RG0 := B0.range 0 (cmc x) (by rw [List.drop_zero, List.take_length])
  have HLC := hid (cmc_len h.e8 h.p8)
  have HPX := hid (cm_at h.e8 h.p8)
  have HSB := hid hsb
  have HNB := hid hnb
  obtain ⟨xc, hxc⟩ : ∃ c, c = cmc x := ⟨_, rfl⟩
  rw [← hxc] at B0 hb0 hck RG0 HLC HPX ⊢
  have HB0 := hid B0
  have HBE := hid hb0
  rw [decide_eq_false hk] at hck
  have HCK := hid hck
  obtain ⟨R, hR⟩ : ∃ R, R = lb := ⟨_, rfl⟩
  rw [show lb ++ putC x = R by rw [hR]; unfold putC; rw [if_neg hk, List.append_nil]]
  subst hR
  clear hck hxc B0 hb0 hsb hnb hk
  go_enter Try.func7, Try.ntmps7
  go_wp2_with (first
    | (refine wpList_load_mid rfl 32 (.tmp 3) rfl w.heap.size 0 rfl xc _ RG0 huc rfl (by rw [HLC.out]; exact info_cm) ?_; simp only [pq4])
    | fail)
  refine HCK.out.mono ?_
  rintro e w1 ⟨rfl, hb1⟩
  have HB1 := hid (HB0.out.later hb1)
  have HBE1 := hid (HBE.out.trans (hb1.mono HBE.out.size))
  clear hb1 RG0
  have HCL := hid (clone_any AB nb cb R w1 HNB.out ((HSB.out.below HBE1.out).more HBE1.out.size) (by omega))
  go_wp2_with fail
  refine HCL.out.mono ?_
  rintro e w9 ⟨A9, c9, rfl, o9, b9⟩
  have HF : Hid (GivesBytes w R (.returned (.slice A9 R.length c9)) w9) := hid ⟨A9, c9, rfl, o9.lower HBE1.out.size, HBE1.out.trans (b9.mono HBE1.out.size)⟩
  clear o9 b9
  go_wp2_with fail
  go_ret
  exact HF.out
end Go.Proofs.Ytnhcjadkbogioaa
namespace Go.Proofs.Ytnhcjadkbogioaa
open Go Go.RowKit OctM BitM
theorem eput_001 (k id gr lab : Int) (x : BitVec 32) (f : List V3) (A : Option Addr) (n c : Nat) (l : List UInt8) (w : World) (hf : f.length = 8) (hlb : 0 ≤ lab) (hn : l.length = n) (hs : Sees w w.heap.size A (bvs l)) (hm : n ≤ 5000) (h0 : echk k id gr x lab f = 0) (hg : grp k = false) (hi : idk k = false) (hp : ptk k = true) :
    Calls Try.prog 22 #[.slice A n c, .agg (ecells k id gr (x.toNat : Int) lab f).toArray] w (GivesBytes w (l ++ ebs k id gr x lab f)) := by
  have HCK := hid (fun wx : World => echeck_any k id gr lab x f wx hf)
  have B0 := Blk.new w (ecells k id gr (x.toNat : Int) lab f) 29
  have HEL := hid (ecells_len k id gr (x.toNat : Int) lab hf)
  have HPL := hid (pcells_len (x.toNat : Int) lab hf)
  have hb := (Below.refl w.heap.size w).alloc (Nat.le_refl _) (.cells (ecells k id gr (x.toNat : Int) lab f).toArray 29)
  have HQ : Hid (∀ wx : World, Blk wx w.heap.size (ecells k id gr (x.toNat : Int) lab f) → (wx.cell? ⟨w.heap.size, 0, none⟩ = some (.int .i64 k) ∧ wx.cell? ⟨w.heap.size, 1, none⟩ = some (.int .i64 id) ∧ wx.cell? ⟨w.heap.size, 2, none⟩ = some (.int .i64 gr)) ∧ wx.rangeAt w.heap.size 3 (pcells (x.toNat : Int) lab f)) := hid (fun wx h => ⟨h.edit, h.patchE⟩)
  have hue := Try.underlying29
  have hup := Try.underlying27
  rw [h0] at HCK
  have HG := hid (fun wx : World => has_grp k wx)
  have HI := hid (fun wx : World => has_idk k wx)
  have HP := hid (fun wx : World => has_ptk k wx)
  have hbs := ebs_of h0 hg hi hp
  rw [hg] at HG
  rw [hi] at HI
  rw [hp] at HP
  obtain ⟨r1, hr1⟩ : ∃ r, r = l ++ enc (held k) := ⟨_, rfl⟩
  obtain ⟨n1, hn1⟩ : ∃ n, n = r1.length := ⟨_, rfl⟩
  have b1 : n1 ≤ 5000 + 6 := by rw [hn1, hr1, List.length_append]; have := held_len k; omega
  have H1 : Hid (∀ (A' : Option Addr) (c' : Nat) (wx : World), Sees wx wx.heap.size A' (bvs l) → Calls Try.prog 21 #[.slice A' n c', .int .i64 k] wx (GivesBytes wx r1)) := hid (fun A' c' wx h => by rw [hr1]; exact oct_num A' n c' l k wx hn h (by omega))
  have M1 := hid hn1
  obtain ⟨r4, hr4⟩ : ∃ r, r = r1 ++ pbs x lab f := ⟨_, rfl⟩
  obtain ⟨n4, hn4⟩ : ∃ n, n = r4.length := ⟨_, rfl⟩
  have H4 : Hid (∀ (A' : Option Addr) (c' : Nat) (wx : World), Sees wx wx.heap.size A' (bvs r1) → Calls Try.prog 23 #[.slice A' n1 c', .agg (pcells (x.toNat : Int) lab f).toArray] wx (GivesBytes wx r4)) := hid (fun A' c' wx h => by rw [hr4]; exact putpatch_any x lab f A' n1 c' r1 wx hf hlb hn1.symm h (by omega))
  have M4 := hid hn4
  have hR : l ++ ebs k id gr x lab f = r4 := by
    rw [hbs, hr4, hr1]
    simp
  rw [hR]
  obtain ⟨pc, hpc⟩ : ∃ pc, pc = pcells (x.toNat : Int) lab f := ⟨_, rfl⟩
  obtain ⟨ec, hec⟩ : ∃ ec, ec = ecells k id gr (x.toNat : Int) lab f := ⟨_, rfl⟩
  rw [← hpc] at HQ HPL H4
  rw [← hec] at B0 HEL hb HQ HCK ⊢
  have RG := B0.wholeC
  clear hpc hec hbs hR hf hlb hn h0 hg hi hp hr1 hn1 hr4 hn4 b1
  go_enter Try.func22, Try.ntmps22
  go_wp2_with (first
    | (refine wpList_load_mid rfl 29 (.tmp 3) rfl w.heap.size 0 rfl ec _ RG hue rfl (by rw [HEL.out]; exact info_edit) ?_)
    | fail)
  refine (HCK.out _).mono ?_
  rintro e w2 ⟨rfl, hb2⟩
  replace B0 := B0.later hb2
  replace hb := hb.trans (hb2.mono hb.size)
  have s0 : Sees w2 w2.heap.size A (bvs l) := (hs.below hb).more hb.size
  clear hb2 RG
  obtain ⟨⟨q0, q1, q2⟩, RP⟩ := HQ.out _ B0
  go_wp2_with fail
  refine (H1.out _ _ _ s0).mono ?_
  rintro e w2 ⟨A1, c1, rfl, o1, hb2⟩
  have s1 := o1.sees
  have hz1 := hb.size
  rw [← M1.out] at o1 ⊢
  replace B0 := B0.later hb2
  replace hb := hb.trans (hb2.mono hb.size)
  clear hb2 q0 q1 q2 RP
  obtain ⟨⟨q0, q1, q2⟩, RP⟩ := HQ.out _ B0
  go_wp2_with fail
  refine (HG.out _).mono ?_
  rintro e w' ⟨rfl, rfl⟩
  go_wp2_with fail
  refine (HI.out _).mono ?_
  rintro e w' ⟨rfl, rfl⟩
  go_wp2_with fail
  refine (HP.out _).mono ?_
  rintro e w' ⟨rfl, rfl⟩
  go_wp2_with (first
    | (refine wpList_load_mid rfl 27 (.tmp 33) rfl w.heap.size 3 rfl pc _ RP hup rfl (by rw [HPL.out]; exact info_patch) ?_)
    | fail)
  refine (H4.out _ _ _ s1).mono ?_
  rintro e w4x ⟨A4, c4, rfl, o4, hb2⟩
  rw [← M4.out] at o4 ⊢
  have hsz := hb.size
  replace hb := hb.trans (hb2.mono hb.size)
  go_wp2_with fail
  go_ret
  exact ⟨A4, c4, by rw [← M4.out]; rfl, by rw [← M4.out]; exact o4.lower hsz, hb⟩
theorem eput_011 (k id gr lab : Int) (x : BitVec 32) (f : List V3) (A : Option Addr) (n c : Nat) (l : List UInt8) (w : World) (hf : f.length = 8) (hlb : 0 ≤ lab) (hn : l.length = n) (hs : Sees w w.heap.size A (bvs l)) (hm : n ≤ 5000) (h0 : echk k id gr x lab f = 0) (hg : grp k = false) (hi : idk k = true) (hp : ptk k = true) :
    Calls Try.prog 22 #[.slice A n c, .agg (ecells k id gr (x.toNat : Int) lab f).toArray] w (GivesBytes w (l ++ ebs k id gr x lab f)) := by
  have HCK := hid (fun wx : World => echeck_any k id gr lab x f wx hf)
  have B0 := Blk.new w (ecells k id gr (x.toNat : Int) lab f) 29
  have HEL := hid (ecells_len k id gr (x.toNat : Int) lab hf)
  have HPL := hid (pcells_len (x.toNat : Int) lab hf)
  have hb := (Below.refl w.heap.size w).alloc (Nat.le_refl _) (.cells (ecells k id gr (x.toNat : Int) lab f).toArray 29)
  have HQ : Hid (∀ wx : World, Blk wx w.heap.size (ecells k id gr (x.toNat : Int) lab f) → (wx.cell? ⟨w.heap.size, 0, none⟩ = some (.int .i64 k) ∧ wx.cell? ⟨w.heap.size, 1, none⟩ = some (.int .i64 id) ∧ wx.cell? ⟨w.heap.size, 2, none⟩ = some (.int .i64 gr)) ∧ wx.rangeAt w.heap.size 3 (pcells (x.toNat : Int) lab f)) := hid (fun wx h => ⟨h.edit, h.patchE⟩)
  have hue := Try.underlying29
  have hup := Try.underlying27
  rw [h0] at HCK
  have HG := hid (fun wx : World => has_grp k wx)
  have HI := hid (fun wx : World => has_idk k wx)
  have HP := hid (fun wx : World => has_ptk k wx)
  have hbs := ebs_of h0 hg hi hp
  rw [hg] at HG
  rw [hi] at HI
  rw [hp] at HP
  obtain ⟨r1, hr1⟩ : ∃ r, r = l ++ enc (held k) := ⟨_, rfl⟩
  obtain ⟨n1, hn1⟩ : ∃ n, n = r1.length := ⟨_, rfl⟩
  have b1 : n1 ≤ 5000 + 6 := by rw [hn1, hr1, List.length_append]; have := held_len k; omega
  have H1 : Hid (∀ (A' : Option Addr) (c' : Nat) (wx : World), Sees wx wx.heap.size A' (bvs l) → Calls Try.prog 21 #[.slice A' n c', .int .i64 k] wx (GivesBytes wx r1)) := hid (fun A' c' wx h => by rw [hr1]; exact oct_num A' n c' l k wx hn h (by omega))
  have M1 := hid hn1
  obtain ⟨r3, hr3⟩ : ∃ r, r = r1 ++ enc (held id) := ⟨_, rfl⟩
  obtain ⟨n3, hn3⟩ : ∃ n, n = r3.length := ⟨_, rfl⟩
  have b3 : n3 ≤ 5000 + 12 := by rw [hn3, hr3, List.length_append]; have := held_len id; omega
  have H3 : Hid (∀ (A' : Option Addr) (c' : Nat) (wx : World), Sees wx wx.heap.size A' (bvs r1) → Calls Try.prog 21 #[.slice A' n1 c', .int .i64 id] wx (GivesBytes wx r3)) := hid (fun A' c' wx h => by rw [hr3]; exact oct_num A' n1 c' r1 id wx hn1.symm h (by omega))
  have M3 := hid hn3
  obtain ⟨r4, hr4⟩ : ∃ r, r = r3 ++ pbs x lab f := ⟨_, rfl⟩
  obtain ⟨n4, hn4⟩ : ∃ n, n = r4.length := ⟨_, rfl⟩
  have H4 : Hid (∀ (A' : Option Addr) (c' : Nat) (wx : World), Sees wx wx.heap.size A' (bvs r3) → Calls Try.prog 23 #[.slice A' n3 c', .agg (pcells (x.toNat : Int) lab f).toArray] wx (GivesBytes wx r4)) := hid (fun A' c' wx h => by rw [hr4]; exact putpatch_any x lab f A' n3 c' r3 wx hf hlb hn3.symm h (by omega))
  have M4 := hid hn4
  have hR : l ++ ebs k id gr x lab f = r4 := by
    rw [hbs, hr4, hr3, hr1]
    simp
  rw [hR]
  obtain ⟨pc, hpc⟩ : ∃ pc, pc = pcells (x.toNat : Int) lab f := ⟨_, rfl⟩
  obtain ⟨ec, hec⟩ : ∃ ec, ec = ecells k id gr (x.toNat : Int) lab f := ⟨_, rfl⟩
  rw [← hpc] at HQ HPL H4
  rw [← hec] at B0 HEL hb HQ HCK ⊢
  have RG := B0.wholeC
  clear hpc hec hbs hR hf hlb hn h0 hg hi hp hr1 hn1 hr3 hn3 hr4 hn4 b1 b3
  go_enter Try.func22, Try.ntmps22
  go_wp2_with (first
    | (refine wpList_load_mid rfl 29 (.tmp 3) rfl w.heap.size 0 rfl ec _ RG hue rfl (by rw [HEL.out]; exact info_edit) ?_)
    | fail)
  refine (HCK.out _).mono ?_
  rintro e w2 ⟨rfl, hb2⟩
  replace B0 := B0.later hb2
  replace hb := hb.trans (hb2.mono hb.size)
  have s0 : Sees w2 w2.heap.size A (bvs l) := (hs.below hb).more hb.size
  clear hb2 RG
  obtain ⟨⟨q0, q1, q2⟩, RP⟩ := HQ.out _ B0
  go_wp2_with fail
  refine (H1.out _ _ _ s0).mono ?_
  rintro e w2 ⟨A1, c1, rfl, o1, hb2⟩
  have s1 := o1.sees
  have hz1 := hb.size
  rw [← M1.out] at o1 ⊢
  replace B0 := B0.later hb2
  replace hb := hb.trans (hb2.mono hb.size)
  clear hb2 q0 q1 q2 RP
  obtain ⟨⟨q0, q1, q2⟩, RP⟩ := HQ.out _ B0
  go_wp2_with fail
  refine (HG.out _).mono ?_
  rintro e w' ⟨rfl, rfl⟩
  go_wp2_with fail
  refine (HI.out _).mono ?_
  rintro e w' ⟨rfl, rfl⟩
  go_wp2_with fail
  refine (H3.out _ _ _ s1).mono ?_
  rintro e w3x ⟨A3, c3, rfl, o3, hb2⟩
  have s3 := o3.sees
  have hz3 := hb.size
  rw [← M3.out] at o3 ⊢
  replace B0 := B0.later hb2
  replace hb := hb.trans (hb2.mono hb.size)
  clear hb2 q0 q1 q2 RP
  obtain ⟨⟨q0, q1, q2⟩, RP⟩ := HQ.out _ B0
  go_wp2_with fail
  refine (HP.out _).mono ?_
  rintro e w' ⟨rfl, rfl⟩
  go_wp2_with (first
    | (refine wpList_load_mid rfl 27 (.tmp 33) rfl w.heap.size 3 rfl pc _ RP hup rfl (by rw [HPL.out]; exact info_patch) ?_)
    | fail)
  refine (H4.out _ _ _ s3).mono ?_
  rintro e w4x ⟨A4, c4, rfl, o4, hb2⟩
  rw [← M4.out] at o4 ⊢
  have hsz := hb.size
  replace hb := hb.trans (hb2.mono hb.size)
  go_wp2_with fail
  go_ret
  exact ⟨A4, c4, by rw [← M4.out]; rfl, by rw [← M4.out]; exact o4.lower hsz, hb⟩
theorem eput_010 (k id gr lab : Int) (x : BitVec 32) (f : List V3) (A : Option Addr) (n c : Nat) (l : List UInt8) (w : World) (hf : f.length = 8) (hlb : 0 ≤ lab) (hn : l.length = n) (hs : Sees w w.heap.size A (bvs l)) (hm : n ≤ 5000) (h0 : echk k id gr x lab f = 0) (hg : grp k = false) (hi : idk k = true) (hp : ptk k = false) :
    Calls Try.prog 22 #[.slice A n c, .agg (ecells k id gr (x.toNat : Int) lab f).toArray] w (GivesBytes w (l ++ ebs k id gr x lab f)) := by
  have HCK := hid (fun wx : World => echeck_any k id gr lab x f wx hf)
  have B0 := Blk.new w (ecells k id gr (x.toNat : Int) lab f) 29
  have HEL := hid (ecells_len k id gr (x.toNat : Int) lab hf)
  have HPL := hid (pcells_len (x.toNat : Int) lab hf)
  have hb := (Below.refl w.heap.size w).alloc (Nat.le_refl _) (.cells (ecells k id gr (x.toNat : Int) lab f).toArray 29)
  have HQ : Hid (∀ wx : World, Blk wx w.heap.size (ecells k id gr (x.toNat : Int) lab f) → (wx.cell? ⟨w.heap.size, 0, none⟩ = some (.int .i64 k) ∧ wx.cell? ⟨w.heap.size, 1, none⟩ = some (.int .i64 id) ∧ wx.cell? ⟨w.heap.size, 2, none⟩ = some (.int .i64 gr)) ∧ wx.rangeAt w.heap.size 3 (pcells (x.toNat : Int) lab f)) := hid (fun wx h => ⟨h.edit, h.patchE⟩)
  have hue := Try.underlying29
  have hup := Try.underlying27
  rw [h0] at HCK
  have HG := hid (fun wx : World => has_grp k wx)
  have HI := hid (fun wx : World => has_idk k wx)
  have HP := hid (fun wx : World => has_ptk k wx)
  have hbs := ebs_of h0 hg hi hp
  rw [hg] at HG
  rw [hi] at HI
  rw [hp] at HP
  obtain ⟨r1, hr1⟩ : ∃ r, r = l ++ enc (held k) := ⟨_, rfl⟩
  obtain ⟨n1, hn1⟩ : ∃ n, n = r1.length := ⟨_, rfl⟩
  have b1 : n1 ≤ 5000 + 6 := by rw [hn1, hr1, List.length_append]; have := held_len k; omega
  have H1 : Hid (∀ (A' : Option Addr) (c' : Nat) (wx : World), Sees wx wx.heap.size A' (bvs l) → Calls Try.prog 21 #[.slice A' n c', .int .i64 k] wx (GivesBytes wx r1)) := hid (fun A' c' wx h => by rw [hr1]; exact oct_num A' n c' l k wx hn h (by omega))
  have M1 := hid hn1
  obtain ⟨r3, hr3⟩ : ∃ r, r = r1 ++ enc (held id) := ⟨_, rfl⟩
  obtain ⟨n3, hn3⟩ : ∃ n, n = r3.length := ⟨_, rfl⟩
  have b3 : n3 ≤ 5000 + 12 := by rw [hn3, hr3, List.length_append]; have := held_len id; omega
  have H3 : Hid (∀ (A' : Option Addr) (c' : Nat) (wx : World), Sees wx wx.heap.size A' (bvs r1) → Calls Try.prog 21 #[.slice A' n1 c', .int .i64 id] wx (GivesBytes wx r3)) := hid (fun A' c' wx h => by rw [hr3]; exact oct_num A' n1 c' r1 id wx hn1.symm h (by omega))
  have M3 := hid hn3
  have hR : l ++ ebs k id gr x lab f = r3 := by
    rw [hbs, hr3, hr1]
    simp
  rw [hR]
  obtain ⟨pc, hpc⟩ : ∃ pc, pc = pcells (x.toNat : Int) lab f := ⟨_, rfl⟩
  obtain ⟨ec, hec⟩ : ∃ ec, ec = ecells k id gr (x.toNat : Int) lab f := ⟨_, rfl⟩
  rw [← hpc] at HQ HPL
  rw [← hec] at B0 HEL hb HQ HCK ⊢
  have RG := B0.wholeC
  clear hpc hec hbs hR hf hlb hn h0 hg hi hp hr1 hn1 hr3 hn3 b1 b3
  go_enter Try.func22, Try.ntmps22
  go_wp2_with (first
    | (refine wpList_load_mid rfl 29 (.tmp 3) rfl w.heap.size 0 rfl ec _ RG hue rfl (by rw [HEL.out]; exact info_edit) ?_)
    | fail)
  refine (HCK.out _).mono ?_
  rintro e w2 ⟨rfl, hb2⟩
  replace B0 := B0.later hb2
  replace hb := hb.trans (hb2.mono hb.size)
  have s0 : Sees w2 w2.heap.size A (bvs l) := (hs.below hb).more hb.size
  clear hb2 RG
  obtain ⟨⟨q0, q1, q2⟩, RP⟩ := HQ.out _ B0
  go_wp2_with fail
  refine (H1.out _ _ _ s0).mono ?_
  rintro e w2 ⟨A1, c1, rfl, o1, hb2⟩
  have s1 := o1.sees
  have hz1 := hb.size
  rw [← M1.out] at o1 ⊢
  replace B0 := B0.later hb2
  replace hb := hb.trans (hb2.mono hb.size)
  clear hb2 q0 q1 q2 RP
  obtain ⟨⟨q0, q1, q2⟩, RP⟩ := HQ.out _ B0
  go_wp2_with fail
  refine (HG.out _).mono ?_
  rintro e w' ⟨rfl, rfl⟩
  go_wp2_with fail
  refine (HI.out _).mono ?_
  rintro e w' ⟨rfl, rfl⟩
  go_wp2_with fail
  refine (H3.out _ _ _ s1).mono ?_
  rintro e w3x ⟨A3, c3, rfl, o3, hb2⟩
  have s3 := o3.sees
  have hz3 := hb.size
  rw [← M3.out] at o3 ⊢
  replace B0 := B0.later hb2
  replace hb := hb.trans (hb2.mono hb.size)
  clear hb2 q0 q1 q2 RP
  obtain ⟨⟨q0, q1, q2⟩, RP⟩ := HQ.out _ B0
  go_wp2_with fail
  refine (HP.out _).mono ?_
  rintro e w' ⟨rfl, rfl⟩
  go_wp2_with fail
  go_ret
  exact ⟨A3, c3, by rw [← M3.out]; rfl, by rw [← M3.out]; exact o3.lower hz3, hb⟩
theorem eput_100 (k id gr lab : Int) (x : BitVec 32) (f : List V3) (A : Option Addr) (n c : Nat) (l : List UInt8) (w : World) (hf : f.length = 8) (hlb : 0 ≤ lab) (hn : l.length = n) (hs : Sees w w.heap.size A (bvs l)) (hm : n ≤ 5000) (h0 : echk k id gr x lab f = 0) (hg : grp k = true) (hi : idk k = false) (hp : ptk k = false) :
    Calls Try.prog 22 #[.slice A n c, .agg (ecells k id gr (x.toNat : Int) lab f).toArray] w (GivesBytes w (l ++ ebs k id gr x lab f)) := by
  have HCK := hid (fun wx : World => echeck_any k id gr lab x f wx hf)
  have B0 := Blk.new w (ecells k id gr (x.toNat : Int) lab f) 29
  have HEL := hid (ecells_len k id gr (x.toNat : Int) lab hf)
  have HPL := hid (pcells_len (x.toNat : Int) lab hf)
  have hb := (Below.refl w.heap.size w).alloc (Nat.le_refl _) (.cells (ecells k id gr (x.toNat : Int) lab f).toArray 29)
  have HQ : Hid (∀ wx : World, Blk wx w.heap.size (ecells k id gr (x.toNat : Int) lab f) → (wx.cell? ⟨w.heap.size, 0, none⟩ = some (.int .i64 k) ∧ wx.cell? ⟨w.heap.size, 1, none⟩ = some (.int .i64 id) ∧ wx.cell? ⟨w.heap.size, 2, none⟩ = some (.int .i64 gr)) ∧ wx.rangeAt w.heap.size 3 (pcells (x.toNat : Int) lab f)) := hid (fun wx h => ⟨h.edit, h.patchE⟩)
  have hue := Try.underlying29
  have hup := Try.underlying27
  rw [h0] at HCK
  have HG := hid (fun wx : World => has_grp k wx)
  have HI := hid (fun wx : World => has_idk k wx)
  have HP := hid (fun wx : World => has_ptk k wx)
  have hbs := ebs_of h0 hg hi hp
  rw [hg] at HG
  rw [hi] at HI
  rw [hp] at HP
  obtain ⟨r1, hr1⟩ : ∃ r, r = l ++ enc (held k) := ⟨_, rfl⟩
  obtain ⟨n1, hn1⟩ : ∃ n, n = r1.length := ⟨_, rfl⟩
  have b1 : n1 ≤ 5000 + 6 := by rw [hn1, hr1, List.length_append]; have := held_len k; omega
  have H1 : Hid (∀ (A' : Option Addr) (c' : Nat) (wx : World), Sees wx wx.heap.size A' (bvs l) → Calls Try.prog 21 #[.slice A' n c', .int .i64 k] wx (GivesBytes wx r1)) := hid (fun A' c' wx h => by rw [hr1]; exact oct_num A' n c' l k wx hn h (by omega))
  have M1 := hid hn1
  obtain ⟨r2, hr2⟩ : ∃ r, r = r1 ++ enc (held gr) := ⟨_, rfl⟩
  obtain ⟨n2, hn2⟩ : ∃ n, n = r2.length := ⟨_, rfl⟩
  have b2 : n2 ≤ 5000 + 12 := by rw [hn2, hr2, List.length_append]; have := held_len gr; omega
  have H2 : Hid (∀ (A' : Option Addr) (c' : Nat) (wx : World), Sees wx wx.heap.size A' (bvs r1) → Calls Try.prog 21 #[.slice A' n1 c', .int .i64 gr] wx (GivesBytes wx r2)) := hid (fun A' c' wx h => by rw [hr2]; exact oct_num A' n1 c' r1 gr wx hn1.symm h (by omega))
  have M2 := hid hn2
  have hR : l ++ ebs k id gr x lab f = r2 := by
    rw [hbs, hr2, hr1]
    simp
  rw [hR]
  obtain ⟨pc, hpc⟩ : ∃ pc, pc = pcells (x.toNat : Int) lab f := ⟨_, rfl⟩
  obtain ⟨ec, hec⟩ : ∃ ec, ec = ecells k id gr (x.toNat : Int) lab f := ⟨_, rfl⟩
  rw [← hpc] at HQ HPL
  rw [← hec] at B0 HEL hb HQ HCK ⊢
  have RG := B0.wholeC
  clear hpc hec hbs hR hf hlb hn h0 hg hi hp hr1 hn1 hr2 hn2 b1 b2
  go_enter Try.func22, Try.ntmps22
  go_wp2_with (first
    | (refine wpList_load_mid rfl 29 (.tmp 3) rfl w.heap.size 0 rfl ec _ RG hue rfl (by rw [HEL.out]; exact info_edit) ?_)
    | fail)
  refine (HCK.out _).mono ?_
  rintro e w2 ⟨rfl, hb2⟩
  replace B0 := B0.later hb2
  replace hb := hb.trans (hb2.mono hb.size)
  have s0 : Sees w2 w2.heap.size A (bvs l) := (hs.below hb).more hb.size
  clear hb2 RG
  obtain ⟨⟨q0, q1, q2⟩, RP⟩ := HQ.out _ B0
  go_wp2_with fail
  refine (H1.out _ _ _ s0).mono ?_
  rintro e w2 ⟨A1, c1, rfl, o1, hb2⟩
  have s1 := o1.sees
  have hz1 := hb.size
  rw [← M1.out] at o1 ⊢
  replace B0 := B0.later hb2
  replace hb := hb.trans (hb2.mono hb.size)
  clear hb2 q0 q1 q2 RP
  obtain ⟨⟨q0, q1, q2⟩, RP⟩ := HQ.out _ B0
  go_wp2_with fail
  refine (HG.out _).mono ?_
  rintro e w' ⟨rfl, rfl⟩
  go_wp2_with fail
  refine (H2.out _ _ _ s1).mono ?_
  rintro e w2x ⟨A2, c2, rfl, o2, hb2⟩
  have s2 := o2.sees
  have hz2 := hb.size
  rw [← M2.out] at o2 ⊢
  replace B0 := B0.later hb2
  replace hb := hb.trans (hb2.mono hb.size)
  clear hb2 q0 q1 q2 RP
  obtain ⟨⟨q0, q1, q2⟩, RP⟩ := HQ.out _ B0
  go_wp2_with fail
  refine (HI.out _).mono ?_
  rintro e w' ⟨rfl, rfl⟩
  go_wp2_with fail
  refine (HP.out _).mono ?_
  rintro e w' ⟨rfl, rfl⟩
  go_wp2_with fail
  go_ret
  exact ⟨A2, c2, by rw [← M2.out]; rfl, by rw [← M2.out]; exact o2.lower hz2, hb⟩
theorem eput_110 (k id gr lab : Int) (x : BitVec 32) (f : List V3) (A : Option Addr) (n c : Nat) (l : List UInt8) (w : World) (hf : f.length = 8) (hlb : 0 ≤ lab) (hn : l.length = n) (hs : Sees w w.heap.size A (bvs l)) (hm : n ≤ 5000) (h0 : echk k id gr x lab f = 0) (hg : grp k = true) (hi : idk k = true) (hp : ptk k = false) :
    Calls Try.prog 22 #[.slice A n c, .agg (ecells k id gr (x.toNat : Int) lab f).toArray] w (GivesBytes w (l ++ ebs k id gr x lab f)) := by
  have HCK := hid (fun wx : World => echeck_any k id gr lab x f wx hf)
  have B0 := Blk.new w (ecells k id gr (x.toNat : Int) lab f) 29
  have HEL := hid (ecells_len k id gr (x.toNat : Int) lab hf)
  have HPL := hid (pcells_len (x.toNat : Int) lab hf)
  have hb := (Below.refl w.heap.size w).alloc (Nat.le_refl _) (.cells (ecells k id gr (x.toNat : Int) lab f).toArray 29)
  have HQ : Hid (∀ wx : World, Blk wx w.heap.size (ecells k id gr (x.toNat : Int) lab f) → (wx.cell? ⟨w.heap.size, 0, none⟩ = some (.int .i64 k) ∧ wx.cell? ⟨w.heap.size, 1, none⟩ = some (.int .i64 id) ∧ wx.cell? ⟨w.heap.size, 2, none⟩ = some (.int .i64 gr)) ∧ wx.rangeAt w.heap.size 3 (pcells (x.toNat : Int) lab f)) := hid (fun wx h => ⟨h.edit, h.patchE⟩)
  have hue := Try.underlying29
  have hup := Try.underlying27
  rw [h0] at HCK
  have HG := hid (fun wx : World => has_grp k wx)
  have HI := hid (fun wx : World => has_idk k wx)
  have HP := hid (fun wx : World => has_ptk k wx)
  have hbs := ebs_of h0 hg hi hp
  rw [hg] at HG
  rw [hi] at HI
  rw [hp] at HP
  obtain ⟨r1, hr1⟩ : ∃ r, r = l ++ enc (held k) := ⟨_, rfl⟩
  obtain ⟨n1, hn1⟩ : ∃ n, n = r1.length := ⟨_, rfl⟩
  have b1 : n1 ≤ 5000 + 6 := by rw [hn1, hr1, List.length_append]; have := held_len k; omega
  have H1 : Hid (∀ (A' : Option Addr) (c' : Nat) (wx : World), Sees wx wx.heap.size A' (bvs l) → Calls Try.prog 21 #[.slice A' n c', .int .i64 k] wx (GivesBytes wx r1)) := hid (fun A' c' wx h => by rw [hr1]; exact oct_num A' n c' l k wx hn h (by omega))
  have M1 := hid hn1
  obtain ⟨r2, hr2⟩ : ∃ r, r = r1 ++ enc (held gr) := ⟨_, rfl⟩
  obtain ⟨n2, hn2⟩ : ∃ n, n = r2.length := ⟨_, rfl⟩
  have b2 : n2 ≤ 5000 + 12 := by rw [hn2, hr2, List.length_append]; have := held_len gr; omega
  have H2 : Hid (∀ (A' : Option Addr) (c' : Nat) (wx : World), Sees wx wx.heap.size A' (bvs r1) → Calls Try.prog 21 #[.slice A' n1 c', .int .i64 gr] wx (GivesBytes wx r2)) := hid (fun A' c' wx h => by rw [hr2]; exact oct_num A' n1 c' r1 gr wx hn1.symm h (by omega))
  have M2 := hid hn2
  obtain ⟨r3, hr3⟩ : ∃ r, r = r2 ++ enc (held id) := ⟨_, rfl⟩
  obtain ⟨n3, hn3⟩ : ∃ n, n = r3.length := ⟨_, rfl⟩
  have b3 : n3 ≤ 5000 + 18 := by rw [hn3, hr3, List.length_append]; have := held_len id; omega
  have H3 : Hid (∀ (A' : Option Addr) (c' : Nat) (wx : World), Sees wx wx.heap.size A' (bvs r2) → Calls Try.prog 21 #[.slice A' n2 c', .int .i64 id] wx (GivesBytes wx r3)) := hid (fun A' c' wx h => by rw [hr3]; exact oct_num A' n2 c' r2 id wx hn2.symm h (by omega))
  have M3 := hid hn3
  have hR : l ++ ebs k id gr x lab f = r3 := by
    rw [hbs, hr3, hr2, hr1]
    simp
  rw [hR]
  obtain ⟨pc, hpc⟩ : ∃ pc, pc = pcells (x.toNat : Int) lab f := ⟨_, rfl⟩
  obtain ⟨ec, hec⟩ : ∃ ec, ec = ecells k id gr (x.toNat : Int) lab f := ⟨_, rfl⟩
  rw [← hpc] at HQ HPL
  rw [← hec] at B0 HEL hb HQ HCK ⊢
  have RG := B0.wholeC
  clear hpc hec hbs hR hf hlb hn h0 hg hi hp hr1 hn1 hr2 hn2 hr3 hn3 b1 b2 b3
  go_enter Try.func22, Try.ntmps22
  go_wp2_with (first
    | (refine wpList_load_mid rfl 29 (.tmp 3) rfl w.heap.size 0 rfl ec _ RG hue rfl (by rw [HEL.out]; exact info_edit) ?_)
    | fail)
  refine (HCK.out _).mono ?_
  rintro e w2 ⟨rfl, hb2⟩
  replace B0 := B0.later hb2
  replace hb := hb.trans (hb2.mono hb.size)
  have s0 : Sees w2 w2.heap.size A (bvs l) := (hs.below hb).more hb.size
  clear hb2 RG
  obtain ⟨⟨q0, q1, q2⟩, RP⟩ := HQ.out _ B0
  go_wp2_with fail
  refine (H1.out _ _ _ s0).mono ?_
  rintro e w2 ⟨A1, c1, rfl, o1, hb2⟩
  have s1 := o1.sees
  have hz1 := hb.size
  rw [← M1.out] at o1 ⊢
  replace B0 := B0.later hb2
  replace hb := hb.trans (hb2.mono hb.size)
  clear hb2 q0 q1 q2 RP
  obtain ⟨⟨q0, q1, q2⟩, RP⟩ := HQ.out _ B0
  go_wp2_with fail
  refine (HG.out _).mono ?_
  rintro e w' ⟨rfl, rfl⟩
  go_wp2_with fail
  refine (H2.out _ _ _ s1).mono ?_
  rintro e w2x ⟨A2, c2, rfl, o2, hb2⟩
  have s2 := o2.sees
  have hz2 := hb.size
  rw [← M2.out] at o2 ⊢
  replace B0 := B0.later hb2
  replace hb := hb.trans (hb2.mono hb.size)
  clear hb2 q0 q1 q2 RP
  obtain ⟨⟨q0, q1, q2⟩, RP⟩ := HQ.out _ B0
  go_wp2_with fail
  refine (HI.out _).mono ?_
  rintro e w' ⟨rfl, rfl⟩
  go_wp2_with fail
  refine (H3.out _ _ _ s2).mono ?_
  rintro e w3x ⟨A3, c3, rfl, o3, hb2⟩
  have s3 := o3.sees
  have hz3 := hb.size
  rw [← M3.out] at o3 ⊢
  replace B0 := B0.later hb2
  replace hb := hb.trans (hb2.mono hb.size)
  clear hb2 q0 q1 q2 RP
  obtain ⟨⟨q0, q1, q2⟩, RP⟩ := HQ.out _ B0
  go_wp2_with fail
  refine (HP.out _).mono ?_
  rintro e w' ⟨rfl, rfl⟩
  go_wp2_with fail
  go_ret
  exact ⟨A3, c3, by rw [← M3.out]; rfl, by rw [← M3.out]; exact o3.lower hz3, hb⟩
theorem eput_any (k id gr lab : Int) (x : BitVec 32) (f : List V3) (A : Option Addr) (n c : Nat) (l : List UInt8) (w : World) (hf : f.length = 8) (hlb : 0 ≤ lab) (hn : l.length = n) (hs : Sees w w.heap.size A (bvs l)) (hm : n ≤ 5000) :
    Calls Try.prog 22 #[.slice A n c, .agg (ecells k id gr (x.toNat : Int) lab f).toArray] w (GivesBytes w (l ++ ebs k id gr x lab f)) := by
  by_cases h0 : echk k id gr x lab f = 0
  · obtain ⟨h1, h2, _⟩ := echk_ok h0
    have hc : k = 1 ∨ k = 2 ∨ k = 3 ∨ k = 4 ∨ k = 5 ∨ k = 6 ∨ k = 7 := by omega
    rcases hc with rfl | rfl | rfl | rfl | rfl | rfl | rfl
    · exact eput_001 _ id gr lab x f A n c l w hf hlb hn hs hm h0 rfl rfl rfl
    · exact eput_011 _ id gr lab x f A n c l w hf hlb hn hs hm h0 rfl rfl rfl
    · exact eput_010 _ id gr lab x f A n c l w hf hlb hn hs hm h0 rfl rfl rfl
    · exact eput_100 _ id gr lab x f A n c l w hf hlb hn hs hm h0 rfl rfl rfl
    · exact eput_100 _ id gr lab x f A n c l w hf hlb hn hs hm h0 rfl rfl rfl
    · exact eput_110 _ id gr lab x f A n c l w hf hlb hn hs hm h0 rfl rfl rfl
    · exact eput_110 _ id gr lab x f A n c l w hf hlb hn hs hm h0 rfl rfl rfl
  · have hR : l ++ ebs k id gr x lab f = l := by unfold ebs; rw [if_pos h0, List.append_nil]
    rw [hR]
    have HCK := hid (fun wx : World => echeck_any k id gr lab x f wx hf)
    have B0 := Blk.new w (ecells k id gr (x.toNat : Int) lab f) 29
    have HEL := hid (ecells_len k id gr (x.toNat : Int) lab hf)
    have HPL := hid (pcells_len (x.toNat : Int) lab hf)
    have hb := (Below.refl w.heap.size w).alloc (Nat.le_refl _) (.cells (ecells k id gr (x.toNat : Int) lab f).toArray 29)
    have HQ : Hid (∀ wx : World, Blk wx w.heap.size (ecells k id gr (x.toNat : Int) lab f) → (wx.cell? ⟨w.heap.size, 0, none⟩ = some (.int .i64 k) ∧ wx.cell? ⟨w.heap.size, 1, none⟩ = some (.int .i64 id) ∧ wx.cell? ⟨w.heap.size, 2, none⟩ = some (.int .i64 gr)) ∧ wx.rangeAt w.heap.size 3 (pcells (x.toNat : Int) lab f)) := hid (fun wx h => ⟨h.edit, h.patchE⟩)
    have hue := Try.underlying29
    have hup := Try.underlying27
    obtain ⟨er, her⟩ : ∃ z, z = echk k id gr x lab f := ⟨_, rfl⟩
    rw [← her] at HCK h0
    have be : (er != 0) = true := by simpa using h0
    have HCL := hid (fun (wx : World) (hb : Below w.heap.size w wx) => clone_any A n c l wx hn ((hs.below hb).more hb.size) (by omega))
    obtain ⟨ec, hec⟩ : ∃ ec, ec = ecells k id gr (x.toNat : Int) lab f := ⟨_, rfl⟩
    rw [← hec] at B0 HEL hb HCK ⊢
    have RG := B0.wholeC
    clear hec her h0 hR hs hn B0 HQ HPL hup
    go_enter Try.func22, Try.ntmps22
    go_wp2_with (first
      | (refine wpList_load_mid rfl 29 (.tmp 3) rfl w.heap.size 0 rfl ec _ RG hue rfl (by rw [HEL.out]; exact info_edit) ?_)
      | fail)
    refine (HCK.out _).mono ?_
    rintro e w2 ⟨rfl, hb2⟩
    have hbw := hb.trans (hb2.mono hb.size)
    clear RG hb2 hb
    go_wp2_with fail
    refine (HCL.out _ hbw).mono ?_
    rintro e w2 ⟨A2, c2, rfl, ho, hb2⟩
    go_wp2_with fail
    go_ret
    exact ⟨A2, c2, rfl, ho.lower hbw.size, hbw.trans (hb2.mono hbw.size)⟩
end Go.Proofs.Ytnhcjadkbogioaa
namespace Go.Proofs.Ytnhcjadkbogioaa
open Go Go.RowKit OctM
theorem cput_1 (AB : Option Addr) (nb cb : Nat) (lb : List UInt8) (x : Cm) (w : World) (hnb : lb.length = nb) (hsb : Sees w w.heap.size AB (bvs lb)) (hmb : nb ≤ 10000) (h : okCm w x) (hk : cok x) (h5 : x.kd = 1) :
    Calls Try.prog 7 #[.slice AB nb cb, .agg (cmc x).toArray] w (GivesBytes w (lb ++ putC x)) := by
  have hue := Try.underlying29
  have huc := Try.underlying32
  have B0 := Blk.new w (cmc x) 32
  have hb0 := below_a1C w (.cells (cmc x).toArray 32)
  have hck := ccheck_any x (w.alloc (.cells (cmc x).toArray 32)) (h.later hb0)
  have RG0 := B0.range 0 (cmc x) (by rw [List.drop_zero, List.take_length])
  have HLC := hid (cmc_len h.e8 h.p8)
  have HPX := hid (cm_at h.e8 h.p8)
  have HSB := hid hsb
  have HNB := hid hnb
  have HEL := hid (cmE_len h.e8)
  have HCE := hid (cm_edit h.e8 h.p8)
  obtain ⟨xc, hxc⟩ : ∃ c, c = cmc x := ⟨_, rfl⟩
  rw [← hxc] at B0 hb0 hck RG0 HLC HPX ⊢
  have HB0 := hid B0
  have HBE := hid hb0
  rw [decide_eq_true hk] at hck
  have HCK := hid hck
  obtain ⟨R, hR⟩ : ∃ R, R = lb ++ putC x := ⟨_, rfl⟩
  rw [← hR]
  have HR : Hid (R = lb ++ (enc (held x.kd) ++ ebs x.ek x.eid x.eg x.em (x.el.toNat : Int) x.ef)) := hid (by rw [hR]; unfold putC cmb; rw [if_pos hk, if_pos h5])
  obtain ⟨l1, hl1⟩ : ∃ l, l = [] ++ enc (held (x.kd)) := ⟨_, rfl⟩
  obtain ⟨n1, hn1⟩ : ∃ n, n = l1.length := ⟨_, rfl⟩
  have L1 : Hid (n1 ≤ 6) := hid (by have := held_len (x.kd); rw [hn1, hl1, List.length_append]; simp only [List.length_nil]; omega)
  have M1 := hid hn1
  have Q1 := hid hl1
  have N1 : Hid (∀ wx : World, Calls Try.prog 21 #[.slice none 0 0, .int .i64 (x.kd)] wx (GivesBytes wx l1)) := hid (fun wx => by rw [hl1]; exact oct_num none 0 0 [] (x.kd) wx rfl Sees.nil_ (by omega))
  clear hl1 hn1
  obtain ⟨l2, hl2⟩ : ∃ l, l = l1 ++ ebs x.ek x.eid x.eg x.em (x.el.toNat : Int) x.ef := ⟨_, rfl⟩
  obtain ⟨n2, hn2⟩ : ∃ n, n = l2.length := ⟨_, rfl⟩
  have L2 : Hid (n2 ≤ 426) := hid (by have := ebs_len x.ek x.eid x.eg x.em (x.el.toNat : Int) x.ef; have := L1.out; have := M1.out; rw [hn2, hl2, List.length_append]; omega)
  have M2 := hid hn2
  have Q2 := hid hl2
  have N2 : Hid (∀ (A' : Option Addr) (c' : Nat) (wx : World), Sees wx wx.heap.size A' (bvs l1) → Calls Try.prog 22 #[.slice A' n1 c', .agg (cmE x).toArray] wx (GivesBytes wx l2)) := hid (fun A' c' wx hs => by rw [hl2]; exact eput_any x.ek x.eid x.eg (x.el.toNat : Int) x.em x.ef A' n1 c' l1 wx h.e8 (Int.natCast_nonneg _) M1.out.symm hs (by have := L1.out; omega))
  clear hl2 hn2
  have e1 : (x.kd == 1) = true := by rw [h5]; rfl
  have e5 : (x.kd == 5) = false := by rw [h5]; rfl
  have e2 : (x.kd == 2) = false := by rw [h5]; rfl
  have e3 : (x.kd == 3) = false := by rw [h5]; rfl
  have HFL : Hid ([lb, l2].flatten = R) := hid (by rw [HR.out, Q2.out, Q1.out]; simp)
  obtain ⟨xe, hxe⟩ : ∃ c, c = cmE x := ⟨_, rfl⟩
  rw [← hxe] at HEL HCE N2
  rw [← hxc] at HCE
  clear hck hxc hxe B0 hb0 hsb hnb hk h5 hR
  go_enter Try.func7, Try.ntmps7
  go_wp2_with (first
    | (refine wpList_load_mid rfl 32 (.tmp 3) rfl w.heap.size 0 rfl xc _ RG0 huc rfl (by rw [HLC.out]; exact info_cm) ?_; simp only [pq4])
    | fail)
  refine HCK.out.mono ?_
  rintro e w1 ⟨rfl, hb1⟩
  have HB1 := hid (HB0.out.later hb1)
  have HBE1 := hid (HBE.out.trans (hb1.mono HBE.out.size))
  clear hb1 RG0
  have k1_0 := HB1.out.cell HPX.out.1
  go_wp2_with fail
  refine (N1.out _).mono ?_
  rintro e w2 ⟨A1, c1, rfl, o1, b1⟩
  have s1 := o1.sees
  rw [← M1.out]
  have HB2 := hid (HB1.out.later b1)
  have HBE2 := hid (HBE1.out.trans (b1.mono HBE1.out.size))
  clear b1 o1
  have k2_0 := HB2.out.cell HPX.out.1
  have RE := HB2.out.range 1 xe HCE.out
  clear k1_0
  go_wp2_with (first
    | (refine wpList_load_mid rfl 29 (.tmp 26) rfl w.heap.size 1 rfl xe _ RE hue rfl (by rw [HEL.out]; exact info_edit) ?_; simp only [pq4])
    | fail)
  refine (N2.out _ _ _ s1).mono ?_
  rintro e w3 ⟨A2, c2, rfl, o2, b2⟩
  have s2 := o2.sees
  rw [← M2.out]
  have HB3 := hid (HB2.out.later b2)
  have HBE3 := hid (HBE2.out.trans (b2.mono HBE2.out.size))
  clear b2 o2 s1
  have k3_0 := HB3.out.cell HPX.out.1
  clear k2_0 RE
  go_wp2_with fail
  have hsA : Sees w3 w3.heap.size AB (bvs lb) := (HSB.out.below HBE3.out).more HBE3.out.size
  have HCC := hid (concat_any w3.heap.size 2 2 [lb, l2] (w3.alloc (.cells #[.slice AB nb cb, .slice A2 n2 c2] 33)) rfl (by simp) (flat2 33 HNB.out M2.out.symm hsA s2) (by omega) (by have := HNB.out; have := M2.out; have := L2.out; simp; omega))
  rw [HFL.out] at HCC
  have HBW := hid (HBE3.out.alloc HBE3.out.size (.cells #[.slice AB nb cb, .slice A2 n2 c2] 33))
  clear hsA s2
  go_wp2_with fail
  refine HCC.out.mono ?_
  rintro e w9 ⟨A9, c9, rfl, o9, b9⟩
  have HF : Hid (GivesBytes w R (.returned (.slice A9 R.length c9)) w9) := hid ⟨A9, c9, rfl, o9.lower HBW.out.size, HBW.out.trans (b9.mono HBW.out.size)⟩
  clear o9 b9
  go_wp2_with fail
  go_ret
  exact HF.out
end Go.Proofs.Ytnhcjadkbogioaa
