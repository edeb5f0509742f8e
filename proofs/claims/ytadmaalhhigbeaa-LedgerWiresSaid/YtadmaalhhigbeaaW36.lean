/- Ledger: LedgerWires' walk. -/
import Derived.Test.YtadmaalhhigbeaaW17
import Derived.Test.YtadmaalhhigbeaaW18
import Derived.Test.YtadmaalhhigbeaaW23
import Derived.Test.YtadmaalhhigbeaaW28
import Derived.Test.YtadmaalhhigbeaaW34
import Derived.Test.YtadmaalhhigbeaaW35
namespace Go.Proofs.Ytadmaalhhigbeaa
set_option linter.unusedVariables false
set_option linter.unusedSimpArgs false
open Go Go.RowKit OctM

theorem small_n30 {w : World} {r : Rp} (h : okRp w r) (hb : lbig r.f = false) : r.n ≤ 65536 := by
  unfold lbig at hb
  rw [Bool.or_eq_false_iff] at hb
  have h1 := of_decide_eq_false hb.1
  rw [← h.len]
  omega
/-- What lies there behind both reads. -/
def BothR (W : World) (gr gm : Nat) (l : List UInt8) (a : Nat) (e : Int) (q : Rq) (t : Rp × Rp) (w' : World) : Prop :=
  Two W w' gr gm l a e (l.drop a) e ∧ (okRp w' t.1 ∧ rab t.1 = q ∧ t.1.n ≤ 31) ∧ okRp w' t.2 ∧ rab t.2 = q

set_option maxRecDepth 100000 in
set_option maxHeartbeats 12800000 in
theorem walk_lwires (a o : Rp) (A : Option Addr) (n c : Nat) (l : List UInt8) (w : World) (hra : okRp w a) (hro : okRp w o) (hn : l.length = n) (hnc : n ≤ c) (hs : Sees w w.heap.size A (bvs l)) :
    Calls Try.prog 3 #[.agg (rpc a).toArray, .agg (rpc o).toArray, .slice A n c] w fun e w' => e = .returned (.bool true) ∧ Below w.heap.size w w' := by
  have hu := Try.underlying26
  obtain ⟨ca, hca⟩ : ∃ ca, ca = rpc a := ⟨_, rfl⟩
  obtain ⟨co, hco⟩ : ∃ co, co = rpc o := ⟨_, rfl⟩
  obtain ⟨W0, hW0⟩ : ∃ W0, W0 = (w.alloc (.cells (rpc a).toArray 26)).alloc (.cells (rpc o).toArray 26) := ⟨_, rfl⟩
  have HB1 : Hid (Below w.heap.size w W0) := Lib.hid (by rw [hW0]; exact below_a2 _ _ _)
  have HKA : Hid (Blk W0 w.heap.size ca) := Lib.hid (by rw [hW0, hca]; exact (Blk.new _ _ _).alloc _)
  have HKO : Hid (Blk W0 (w.heap.size + 1) co) := Lib.hid (by
    have h2 := Blk.new (w.alloc (.cells (rpc a).toArray 26)) (rpc o) 26
    rw [show (w.alloc (.cells (rpc a).toArray 26)).heap.size = w.heap.size + 1 by simp] at h2
    rw [hW0, hco]; exact h2)
  have HKO8 : Hid (W0.cell? ⟨w.heap.size + 1, 8, none⟩ = some (.slice o.A o.n o.c)) := Lib.hid (HKO.out.cell (j := 8) (by rw [hco]; rfl))
  have HLA : Hid (ca.length = 10) := Lib.hid (by rw [hca]; rfl)
  have HLO : Hid (co.length = 10) := Lib.hid (by rw [hco]; rfl)
  have HRR := Lib.hid (fun W (hW : Below w.heap.size w W) => hra.later hW)
  have HRO2 := Lib.hid (fun W (hW : Below w.heap.size w W) => hro.later hW)
  have HBA := Lib.hid (nlarge_any a.A a.n a.c a.f W0 W0.heap.size hra.len (hra.later HB1.out).see)
  have HBO := Lib.hid (nlarge_any o.A o.n o.c o.f W0 W0.heap.size hro.len (hro.later HB1.out).see)
  have HSM := Lib.hid (fun (h : a.n ≤ 65536) W (hW : Below w.heap.size w W) => lsame_any a o W (hra.later hW) (hro.later hW) h)
  have HRSM := Lib.hid (fun (h : a.n ≤ 65536) W (hW : Below w.heap.size w W) => rlsame_any a o W (hra.later hW) (hro.later hW) h)
  have HSA := Lib.hid (fun (h : a.n ≤ 65536) W (hW : Below w.heap.size w W) => lsame_any a a W (hra.later hW) (hra.later hW) h)
  have HCK := Lib.hid (fun (h : a.n ≤ 65536) W (hW : Below w.heap.size w W) => lcheck30_any a W (hra.later hW) h)
  have HRCK := Lib.hid (fun (h : a.n ≤ 65536) W (hW : Below w.heap.size w W) => rlcheck30_any a W (hra.later hW) h)
  have HPU := Lib.hid (fun (h : a.n ≤ 65536) (h5 : n ≤ 1000) W (hW : Below w.heap.size w W) => lput_any A n c l a W hn ((hs.below hW).more hW.size) (by omega) (hra.later hW) h)
  have HP0 := Lib.hid (fun (h : a.n ≤ 65536) W (hW : Below w.heap.size w W) => lput_any none 0 0 [] a W rfl Sees.nil_ (by omega) (hra.later hW) h)
  have HRPU := Lib.hid (fun (h : a.n ≤ 65536) W (hW : Below w.heap.size w W) => rlput_any a W (hra.later hW) h)
  have HRX := Lib.hid (fun W (hW : Below w.heap.size w W) (r : Rp) (h1 : okRp W r) (h2 : r.n ≤ 31) (h3 : rab r = rab a) => (show Calls Try.prog 14 #[.agg (rpc r).toArray, .agg (rpc a).toArray] W (fun e w' => e = .returned (.bool true) ∧ Below W.heap.size W w') from by have := rlsame_any r a W h1 (hra.later hW) (by omega); rwa [decide_eq_true h3] at this))
  have HRP := Lib.hid (fun (h : rok a) => rep_put [] l a h)
  have HPB : Hid (rok a → putB a = rbs a) := Lib.hid (fun h => by unfold putB; rw [if_pos h])
  have hpl := putB_len a
  have HSN := Lib.hid (fun (h : lbig a.f = false) => small_n30 hra h)
  rw [show decide (rab a = rab a) = true from decide_eq_true rfl] at HSA
  simp only [List.nil_append] at HP0 HRP
  obtain ⟨ck, hck⟩ : ∃ b, b = decide (rok a) := ⟨_, rfl⟩
  obtain ⟨sm, hsm⟩ : ∃ b, b = decide (rab a = rab o) := ⟨_, rfl⟩
  obtain ⟨pb, hpb⟩ : ∃ b, b = putB a := ⟨_, rfl⟩
  obtain ⟨lp, hlp⟩ : ∃ z, z = l ++ pb := ⟨_, rfl⟩
  obtain ⟨rp, hrp⟩ : ∃ z, z = str pb := ⟨_, rfl⟩
  rw [← hck] at HCK HRCK
  rw [← hsm] at HSM HRSM
  rw [← hca] at HCK HRCK HSM HRSM HSA HPU HP0 HRPU HRX
  rw [← hco] at HSM HRSM
  rw [← hpb] at HPU HP0 HRPU HPB hpl
  rw [← hlp] at HPU
  rw [← hrp] at HRPU
  have HCKV : Hid (ck = true ↔ rok a) := Lib.hid (by rw [hck]; exact decide_eq_true_iff)
  have hkk : (ck != ck) = false := by simp
  have hmm : (sm != sm) = false := by simp
  obtain ⟨kp, hkp⟩ : ∃ z, z = lp.length := ⟨_, rfl⟩
  obtain ⟨ss, hss⟩ : ∃ z, z = str l := ⟨_, rfl⟩
  obtain ⟨sp, hsp⟩ : ∃ z, z = str lp := ⟨_, rfl⟩
  have addp : ss ++ rp = sp := by rw [hss, hrp, str_append, hsp, hlp]
  have zs : ss.size = n := by rw [hss, str_size, hn]
  have zp : rp.size ≤ 1700 := by rw [hrp, str_size]; exact hpl
  have KP : Hid (lp.length = kp) := Lib.hid hkp.symm
  have CP : Hid (∀ (wx : World) (A' : Option Addr) (c' : Nat) (h : Sees wx wx.heap.size A' (bvs lp)), (convert 27 9 (.slice A' kp c')).run Try.prog wx = .ok (.string sp) wx) := Lib.hid (fun wx A' c' h => str_conv wx wx.heap.size A' kp c' lp sp hkp.symm h hsp)
  have HSS : Hid (∀ wx : World, Below w.heap.size w wx → (convert 27 9 (.slice A n c)).run Try.prog wx = .ok (.string ss) wx) := Lib.hid (fun wx hb => str_conv wx w.heap.size A n c l ss hn (hs.below hb) hss)
  have HNW := Lib.hid (fun (h5 : n ≤ 1000) W (hW : Below w.heap.size w W) => rd_new A n c l W hn ((hs.below hW).more hW.size) (by omega))
  have HSB := Lib.hid (fun W (hW : Below w.heap.size w W) => (hs.below hW).more hW.size)
  have HNL := Lib.hid hn
  have HNC := Lib.hid hnc
  have HSSL := Lib.hid hss
  have HPBL : Hid (pb.length ≤ 1700) := Lib.hid hpl
  have HW0 : Hid (W0 = (w.alloc (.cells (rpc a).toArray 26)).alloc (.cells (rpc o).toArray 26)) := Lib.hid hW0
  clear hck hsm hpb hlp hrp hkp hss hsp hn hnc hs hra hro hca hco hW0 hpl
  obtain ⟨kd, dv, rq, cd, id, vr, sq, ep, FA, fn, fc, f, ms⟩ := a
  obtain ⟨kd', dv', rq', cd', id', vr', sq', ep', FA', fn', fc', f', ms'⟩ := o
  dsimp only [rpc] at HW0 HBA HBO HKO8 ⊢
  by_cases h5 : n ≤ 1000
  · have d5 : decide ((1000 : Int) < (n : Int)) = false := by simp; omega
    have d5n : decide (1000 < n) = false := decide_eq_false (by omega)
    go_enter Try.func3, Try.ntmps3
    go_wp2_with fail
    rw [← HW0.out]
    refine HBA.out.mono ?_
    rintro e w2 ⟨rfl, rfl⟩
    clear HBA HW0
    by_cases hbig : lbig f = true
    · rw [hbig]
      clear hbig
      go_wp2_with fail
      refine (lg_awake _).mono ?_
      rintro e wa ⟨rfl, hba⟩
      have HBA := Lib.hid (HB1.out.trans (hba.mono HB1.out.size))
      clear hba
      go_wp2_with fail
      go_ret
      exact ⟨rfl, HBA.out⟩
    · have hbig : lbig f = false := by simpa using hbig
      rw [hbig]
      have hnf : fn ≤ 65536 := HSN.out hbig
      clear hbig HSN
      have HCK := Lib.hid (HCK.out hnf)
      have HRCK := Lib.hid (HRCK.out hnf)
      have HSM := Lib.hid (HSM.out hnf)
      have HRSM := Lib.hid (HRSM.out hnf)
      have HSA := Lib.hid (HSA.out hnf)
      have HPU := Lib.hid (HPU.out hnf h5)
      have HP0 := Lib.hid (HP0.out hnf)
      have HRPU := Lib.hid (HRPU.out hnf)
      have HNW := Lib.hid (HNW.out h5)
      have kb8 : W0.cell? ⟨w.heap.size + 1, 8, none⟩ = some (.slice FA' fn' fc') := HKO8.out
      go_wp2_with fail
      refine HBO.out.mono ?_
      rintro e w2 ⟨rfl, rfl⟩
      clear HBO kb8
      by_cases hbig : lbig f' = true
      · rw [hbig]
        clear hbig
        go_wp2_with fail
        refine (lg_awake _).mono ?_
        rintro e wa ⟨rfl, hba⟩
        have HBA := Lib.hid (HB1.out.trans (hba.mono HB1.out.size))
        clear hba
        go_wp2_with fail
        go_ret
        exact ⟨rfl, HBA.out⟩
      · have hbig : lbig f' = false := by simpa using hbig
        rw [hbig]
        clear hbig
        have HBW : Hid (∀ W, Le W0 W → Below w.heap.size w W) := Lib.hid (fun W hl => HB1.out.trans (Below.mono hl HB1.out.size))
        have HRA : Hid (∀ W, Le W0 W → W.rangeAt w.heap.size 0 ca) := Lib.hid (fun W hl => (HKA.out.later hl).range 0 ca (by rw [List.drop_zero, List.take_length]))
        have HRO : Hid (∀ W, Le W0 W → W.rangeAt (w.heap.size + 1) 0 co) := Lib.hid (fun W hl => (HKO.out.later hl).range 0 co (by rw [List.drop_zero, List.take_length]))
        go_wp2_with fail
        refine wp_region_steady [(34, relSee kp lp)] 124 (by kernel_rfl) (by kernel_rfl) (by kernel_rfl) (by rfl) ?_
        refine wpG_run (by rfl) (by rfl) (.agg ca.toArray) (fun wx hl => exec_load 26 (.tmp 3) rfl w.heap.size 0 rfl ca _ (HRA.out wx hl.1) hu rfl (by rw [HLA.out]; exact info_rp)) ?_
        simp only [Act.put, List.setIfInBounds_toArray, List.set_cons_zero, List.set_cons_succ]
        refine wpG_call (by rfl) (by rfl) 9 #[.agg ca.toArray] (.bool ck) (by intro _; simp [go_sem]) (by kernel_rfl) (fun wx hl => HCK.out wx (HBW.out wx hl.1)) ?_
        simp only [Act.put, List.setIfInBounds_toArray, List.set_cons_zero, List.set_cons_succ]
        refine wpG_run (by rfl) (by rfl) (.agg ca.toArray) (fun wx hl => exec_load 26 (.tmp 3) rfl w.heap.size 0 rfl ca _ (HRA.out wx hl.1) hu rfl (by rw [HLA.out]; exact info_rp)) ?_
        simp only [Act.put, List.setIfInBounds_toArray, List.set_cons_zero, List.set_cons_succ]
        refine wpG_call (by rfl) (by rfl) 10 #[.agg ca.toArray] (.bool ck) (by intro _; simp [go_sem]) (by kernel_rfl) (fun wx hl => HRCK.out wx (HBW.out wx hl.1)) ?_
        simp only [Act.put, List.setIfInBounds_toArray, List.set_cons_zero, List.set_cons_succ]
        iterate 3 (refine wpG_quiet (by rfl) (by rfl) (by rfl) (fun K hK => ?_); go_big_quiet_op; refine hK _ ?_; clear hK K)
        refine wpG_run (by rfl) (by rfl) (.agg ca.toArray) (fun wx hl => exec_load 26 (.tmp 3) rfl w.heap.size 0 rfl ca _ (HRA.out wx hl.1) hu rfl (by rw [HLA.out]; exact info_rp)) ?_
        simp only [Act.put, List.setIfInBounds_toArray, List.set_cons_zero, List.set_cons_succ]
        refine wpG_calls (relSee kp lp) (by rfl) (by rfl) 11 #[.slice A n c, .agg ca.toArray] (by intro _; simp [go_sem]) (fun w1 hl => (HPU.out w1 (HBW.out w1 hl.1)).mono fun e w' h => gives_see KP.out h) ?_
        rintro _ ⟨_, _, _, ⟨A1, c1, rfl, _⟩⟩
        simp only [Act.put, List.setIfInBounds_toArray, List.set_cons_zero, List.set_cons_succ]
        refine wpG_run (by rfl) (by rfl) (.string sp) (fun w1 hl => ?_) ?_
        · obtain ⟨A2, c2, h2, s2⟩ := hl.2 34 _ (by simp [Op.operands]) rfl (by intro h; cases h)
          cases h2
          exact exec_conv (.tmp 34) 27 9 rfl _ rfl _ (CP.out w1 A1 c1 s2)
        simp only [Act.put, List.setIfInBounds_toArray, List.set_cons_zero, List.set_cons_succ]
        iterate 1 (refine wpG_quiet (by rfl) (by rfl) (by rfl) (fun K hK => ?_); go_big_quiet_op; refine hK _ ?_; clear hK K)
        refine wpG_run (by rfl) (by rfl) (.string ss) (fun w1 hl => exec_conv (.tmp 36) 27 9 rfl _ rfl _ (HSS.out w1 (HBW.out w1 hl.1))) ?_
        simp only [Act.put, List.setIfInBounds_toArray, List.set_cons_zero, List.set_cons_succ]
        refine wpG_run (by rfl) (by rfl) (.agg ca.toArray) (fun wx hl => exec_load 26 (.tmp 3) rfl w.heap.size 0 rfl ca _ (HRA.out wx hl.1) hu rfl (by rw [HLA.out]; exact info_rp)) ?_
        simp only [Act.put, List.setIfInBounds_toArray, List.set_cons_zero, List.set_cons_succ]
        refine wpG_call (by rfl) (by rfl) 12 #[.agg ca.toArray] (.string rp) (by intro _; simp [go_sem]) (by kernel_rfl) (fun wx hl => HRPU.out wx (HBW.out wx hl.1)) ?_
        simp only [Act.put, List.setIfInBounds_toArray, List.set_cons_zero, List.set_cons_succ]
        iterate 4 (refine wpG_quiet (by rfl) (by rfl) (by rfl) (fun K hK => ?_); go_big_quiet_op; refine hK _ ?_; clear hK K)
        refine wpG_run (by rfl) (by rfl) (.agg ca.toArray) (fun wx hl => exec_load 26 (.tmp 3) rfl w.heap.size 0 rfl ca _ (HRA.out wx hl.1) hu rfl (by rw [HLA.out]; exact info_rp)) ?_
        simp only [Act.put, List.setIfInBounds_toArray, List.set_cons_zero, List.set_cons_succ]
        refine wpG_run (by rfl) (by rfl) (.agg co.toArray) (fun wx hl => exec_load 26 (.tmp 4) rfl (w.heap.size + 1) 0 rfl co _ (HRO.out wx hl.1) hu rfl (by rw [HLO.out]; exact info_rp)) ?_
        simp only [Act.put, List.setIfInBounds_toArray, List.set_cons_zero, List.set_cons_succ]
        refine wpG_call (by rfl) (by rfl) 13 #[.agg ca.toArray, .agg co.toArray] (.bool sm) (by intro _; simp [go_sem]) (by kernel_rfl) (fun wx hl => HSM.out wx (HBW.out wx hl.1)) ?_
        simp only [Act.put, List.setIfInBounds_toArray, List.set_cons_zero, List.set_cons_succ]
        refine wpG_run (by rfl) (by rfl) (.agg ca.toArray) (fun wx hl => exec_load 26 (.tmp 3) rfl w.heap.size 0 rfl ca _ (HRA.out wx hl.1) hu rfl (by rw [HLA.out]; exact info_rp)) ?_
        simp only [Act.put, List.setIfInBounds_toArray, List.set_cons_zero, List.set_cons_succ]
        refine wpG_run (by rfl) (by rfl) (.agg co.toArray) (fun wx hl => exec_load 26 (.tmp 4) rfl (w.heap.size + 1) 0 rfl co _ (HRO.out wx hl.1) hu rfl (by rw [HLO.out]; exact info_rp)) ?_
        simp only [Act.put, List.setIfInBounds_toArray, List.set_cons_zero, List.set_cons_succ]
        refine wpG_call (by rfl) (by rfl) 14 #[.agg ca.toArray, .agg co.toArray] (.bool sm) (by intro _; simp [go_sem]) (by kernel_rfl) (fun wx hl => HRSM.out wx (HBW.out wx hl.1)) ?_
        simp only [Act.put, List.setIfInBounds_toArray, List.set_cons_zero, List.set_cons_succ]
        iterate 3 (refine wpG_quiet (by rfl) (by rfl) (by rfl) (fun K hK => ?_); go_big_quiet_op; refine hK _ ?_; clear hK K)
        refine wpG_run (by rfl) (by rfl) (.agg ca.toArray) (fun wx hl => exec_load 26 (.tmp 3) rfl w.heap.size 0 rfl ca _ (HRA.out wx hl.1) hu rfl (by rw [HLA.out]; exact info_rp)) ?_
        simp only [Act.put, List.setIfInBounds_toArray, List.set_cons_zero, List.set_cons_succ]
        refine wpG_run (by rfl) (by rfl) (.agg ca.toArray) (fun wx hl => exec_load 26 (.tmp 3) rfl w.heap.size 0 rfl ca _ (HRA.out wx hl.1) hu rfl (by rw [HLA.out]; exact info_rp)) ?_
        simp only [Act.put, List.setIfInBounds_toArray, List.set_cons_zero, List.set_cons_succ]
        refine wpG_call (by rfl) (by rfl) 13 #[.agg ca.toArray, .agg ca.toArray] (.bool true) (by intro _; simp [go_sem]) (by kernel_rfl) (fun wx hl => HSA.out wx (HBW.out wx hl.1)) ?_
        simp only [Act.put, List.setIfInBounds_toArray, List.set_cons_zero, List.set_cons_succ]
        iterate 2 (refine wpG_quiet (by rfl) (by rfl) (by rfl) (fun K hK => ?_); go_big_quiet_op; refine hK _ ?_; clear hK K)
        refine wpG_nil fun w3 hl3 _ => ?_
        have HB3 := Lib.hid (HBW.out w3 hl3)
        have HK3 := Lib.hid (HKA.out.later hl3)
        clear HCK HSM HRSM HSA HPU HRPU CP hl3 HBW HRA HRO HKA HKO HRO2 HB1 hkk hmm addp KP
        go_wp2_with fail
        refine (HNW.out w3 HB3.out).mono ?_
        rintro e w4 ⟨gr, rfl, r1, b1⟩
        have hc1 := HSS.out w4 (HB3.out.trans (b1.mono HB3.out.size))
        have hgr := r1.block
        clear HNW HSS
        go_wp2_with fail
        have T0 : Same2 w3 (w4.alloc (.cells #[.string ss, .int .i64 0] 38)) gr w4.heap.size l 0 0 := by
          refine ⟨⟨r1.later ((Below.refl _ _).alloc (Nat.le_refl _) _), ?_, hgr.2, b1.alloc b1.size _⟩, Nat.zero_le _, by rw [HNL.out]; omega⟩
          have h := own_lit w4 w3.heap.size 38 #[.string ss, .int .i64 0] b1.size (by simp [maxLen])
          rw [HSSL.out] at h ⊢
          exact h
        generalize hgm : w4.heap.size = gm at T0 ⊢
        clear hc1 r1 b1 hgr hgm HSSL
        go_loopw [9] (fun i wr => ∃ (k a : Nat) (e : Int), k ≤ 3 ∧ i = .int .i64 k ∧ Same2 w3 wr gr gm l a e) (fun i _ => 3 - (intOf i).toNat)
        case atStart => exact ⟨0, 0, 0, by omega, rfl, T0⟩
        case round =>
          obtain ⟨k, a, e, hk, rfl, T, ha, hm⟩ := hrel
          have HT := Lib.hid T
          clear T0
          by_cases hlt : k < 3
          · have q2 : (k : Int) < 3 := by omega
            have ha2 := rep_at (e := e) ha
            have H1 := Lib.hid (fun wx (T : Two w3 wx gr gm l a e (l.drop a) e) => (lread_any _ gr l a e wx T.1 ha hm).mono fun x w' h => (show ∃ r, x = .returned (.agg (rpc r).toArray) ∧ (okRp w' r ∧ rab r = (repOut l a e).1 ∧ r.n ≤ 31 ∧ farRp gm r) ∧ Two w3 w' gr gm l (repOut l a e).2.1 (repOut l a e).2.2 (l.drop a) e from by
              obtain ⟨⟨r, h1, h2, h3, h4, h5⟩, h6, h7⟩ := h
              exact ⟨r, h1, ⟨h2, h3, h4, fun ad e _ => by have := h5 ad e; have := T.2.1.block.2; omega⟩, T.first h6 h7⟩))
            have H2 := Lib.hid (fun wx (T : Two w3 wx gr gm l (repOut l a e).2.1 (repOut l a e).2.2 (l.drop a) e) (r1 : Rp) (p : okRp wx r1 ∧ rab r1 = (repOut l a e).1 ∧ r1.n ≤ 31 ∧ farRp gm r1) => (rlread_any _ gm l a e wx T.2.1 ha hm).mono fun x w' h => (show ∃ r, x = .returned (.agg (rpc r).toArray) ∧ BothR w3 gr gm l (repOut l a e).2.1 (repOut l a e).2.2 (repOut l a e).1 (r1, r) w' from by
              obtain ⟨⟨r, h1, h2, h3, h4, h5⟩, h6, h7⟩ := h
              exact ⟨r, h1, T.second h6 h7, ⟨p.1.grown p.2.2.2 h7, p.2.1, p.2.2.1⟩, h2, h3⟩))
            obtain ⟨⟨q, a2, e2⟩, hq⟩ : ∃ q, q = repOut l a e := ⟨_, rfl⟩
            rw [← hq] at H1 H2 ha2
            simp only at H1 H2 ha2
            clear hq T
            go_wp2_with fail
            refine wp_region_headx 4 124 #[true, true, true, true, false, false, false, false, false, false, false, false, false, false, false, false, false, false, false, false, false, false, false, false, false] (fun t : Rp × Rp => [.pointer (some ⟨gr, 0, none⟩), .agg (rpc t.1).toArray, .pointer (some ⟨gm, 0, none⟩), .agg (rpc t.2).toArray]) (BothR w3 gr gm l a2 e2 q) (by kernel_rfl) (by kernel_rfl) (by kernel_rfl) (by kernel_rfl) (by intro t; rfl) ?_ ?_
            · intro TAIL
              have T0 := HT.out.later ((Below.refl _ _).drew)
              refine wpAny_step (fuel := 24) [0, 2] (by kernel_rfl) rfl (fun i hi => ?_)
              simp only [List.mem_cons, List.not_mem_nil, or_false] at hi
              rcases hi with rfl | rfl
              · refine wpOp_move _ rfl (.tmp 7) rfl (by rfl) ?_
                simp only [Act.put, List.setIfInBounds_toArray, List.set_cons_zero, List.set_cons_succ]
                refine wpAny_step (fuel := 23) [1, 2] (by kernel_rfl) rfl (fun i hi => ?_)
                simp only [List.mem_cons, List.not_mem_nil, or_false] at hi
                rcases hi with rfl | rfl
                · refine wpOp_call _ rfl 16 #[.pointer (some ⟨gr, 0, none⟩)] (by simp [go_sem]) (by rfl) ((H1.out _ T0).mono ?_)
                  rintro e' w1 ⟨r1, rfl, p1, T1⟩
                  refine ⟨_, rfl, ?_⟩
                  simp only [Act.put, List.setIfInBounds_toArray, List.set_cons_zero, List.set_cons_succ]
                  refine wpAny_step (fuel := 22) [2] (by kernel_rfl) rfl (fun i hi => ?_)
                  simp only [List.mem_cons, List.not_mem_nil, or_false] at hi
                  subst hi
                  refine wpOp_move _ rfl (.tmp 8) rfl (by rfl) ?_
                  simp only [Act.put, List.setIfInBounds_toArray, List.set_cons_zero, List.set_cons_succ]
                  refine wpAny_step (fuel := 21) [3] (by kernel_rfl) rfl (fun i hi => ?_)
                  simp only [List.mem_cons, List.not_mem_nil, or_false] at hi
                  subst hi
                  refine wpOp_call _ rfl 17 #[.pointer (some ⟨gm, 0, none⟩)] (by simp [go_sem]) (by rfl) ((H2.out _ T1 _ p1).mono ?_)
                  rintro e' w2 ⟨r2, rfl, p2⟩
                  refine ⟨_, rfl, ?_⟩
                  simp only [Act.put, List.setIfInBounds_toArray, List.set_cons_zero, List.set_cons_succ]
                  exact TAIL (r1, r2) _ p2
                · refine wpOp_move _ rfl (.tmp 8) rfl (by rfl) ?_
                  simp only [Act.put, List.setIfInBounds_toArray, List.set_cons_zero, List.set_cons_succ]
                  refine wpAny_step (fuel := 22) [1] (by kernel_rfl) rfl (fun i hi => ?_)
                  simp only [List.mem_cons, List.not_mem_nil, or_false] at hi
                  subst hi
                  refine wpOp_call _ rfl 16 #[.pointer (some ⟨gr, 0, none⟩)] (by simp [go_sem]) (by rfl) ((H1.out _ T0).mono ?_)
                  rintro e' w1 ⟨r1, rfl, p1, T1⟩
                  refine ⟨_, rfl, ?_⟩
                  simp only [Act.put, List.setIfInBounds_toArray, List.set_cons_zero, List.set_cons_succ]
                  refine wpAny_step (fuel := 21) [3] (by kernel_rfl) rfl (fun i hi => ?_)
                  simp only [List.mem_cons, List.not_mem_nil, or_false] at hi
                  subst hi
                  refine wpOp_call _ rfl 17 #[.pointer (some ⟨gm, 0, none⟩)] (by simp [go_sem]) (by rfl) ((H2.out _ T1 _ p1).mono ?_)
                  rintro e' w2 ⟨r2, rfl, p2⟩
                  refine ⟨_, rfl, ?_⟩
                  simp only [Act.put, List.setIfInBounds_toArray, List.set_cons_zero, List.set_cons_succ]
                  exact TAIL (r1, r2) _ p2
              · refine wpOp_move _ rfl (.tmp 8) rfl (by rfl) ?_
                simp only [Act.put, List.setIfInBounds_toArray, List.set_cons_zero, List.set_cons_succ]
                refine wpAny_step (fuel := 23) [0] (by kernel_rfl) rfl (fun i hi => ?_)
                simp only [List.mem_cons, List.not_mem_nil, or_false] at hi
                subst hi
                refine wpOp_move _ rfl (.tmp 7) rfl (by rfl) ?_
                simp only [Act.put, List.setIfInBounds_toArray, List.set_cons_zero, List.set_cons_succ]
                refine wpAny_step (fuel := 22) [1] (by kernel_rfl) rfl (fun i hi => ?_)
                simp only [List.mem_cons, List.not_mem_nil, or_false] at hi
                subst hi
                refine wpOp_call _ rfl 16 #[.pointer (some ⟨gr, 0, none⟩)] (by simp [go_sem]) (by rfl) ((H1.out _ T0).mono ?_)
                rintro e' w1 ⟨r1, rfl, p1, T1⟩
                refine ⟨_, rfl, ?_⟩
                simp only [Act.put, List.setIfInBounds_toArray, List.set_cons_zero, List.set_cons_succ]
                refine wpAny_step (fuel := 21) [3] (by kernel_rfl) rfl (fun i hi => ?_)
                simp only [List.mem_cons, List.not_mem_nil, or_false] at hi
                subst hi
                refine wpOp_call _ rfl 17 #[.pointer (some ⟨gm, 0, none⟩)] (by simp [go_sem]) (by rfl) ((H2.out _ T1 _ p1).mono ?_)
                rintro e' w2 ⟨r2, rfl, p2⟩
                refine ⟨_, rfl, ?_⟩
                simp only [Act.put, List.setIfInBounds_toArray, List.set_cons_zero, List.set_cons_succ]
                exact TAIL (r1, r2) _ p2
            · rintro ⟨r1, r2⟩ w5 ⟨T5, p1, p2⟩
              simp only at p1 p2
              obtain ⟨rest, hrest⟩ : ∃ r, r = l.length - a2 := ⟨_, rfl⟩
              obtain ⟨sr, hsr⟩ : ∃ sr, sr = str (l.drop a2) := ⟨_, rfl⟩
              have zr : sr.size = rest := by rw [hsr, str_size, List.length_drop, hrest]
              have hr2 : rest ≤ 2000 := by have := HNL.out; omega
              have HSS := Lib.hid (fun wx (hl : Le w5 wx) => (show Calls Try.prog 14 #[.agg (rpc r1).toArray, .agg (rpc r2).toArray] wx (fun e w' => e = .returned (.bool true) ∧ Below wx.heap.size wx w') from by
                have := rlsame_any r1 r2 wx (p1.1.later hl) (p2.1.later hl) (by have := p1.2.2; omega)
                rwa [decide_eq_true (p1.2.1.trans p2.2.symm)] at this))
              have HLE := Lib.hid (fun wx (T : Two w3 wx gr gm l a2 e2 (l.drop a2) e2) => two_left T ha2 hm rest hrest)
              have HER := Lib.hid (fun wx (T : Two w3 wx gr gm l a2 e2 (l.drop a2) e2) => two_err T)
              have hm0 : ∀ k : LW w5, k.val.cell? ⟨gm, 0, none⟩ = some (.string sr) := fun k => by rw [hsr]; exact (octx2_cells (T5.later k.le)).1
              have hm1 : ∀ k : LW w5, k.val.cell? ⟨gm, 1, none⟩ = some (.int .i64 e2) := fun k => (octx2_cells (T5.later k.le)).2
              clear hrest hsr p1 p2
              generalize rpc r1 = cr1 at *
              generalize rpc r2 = cr2 at *
              simp only [putsAll, List.drop_succ_cons, List.drop_zero]
              simp only [Act.put, List.setIfInBounds_toArray, List.set_cons_zero, List.set_cons_succ]
              refine wpG_call (by rfl) (by rfl) 14 #[.agg cr1.toArray, .agg cr2.toArray] (.bool true) (by intro _; simp [go_sem]) (by kernel_rfl) (fun w1 hl => HSS.out w1 hl.1) ?_
              simp only [Act.put, List.setIfInBounds_toArray, List.set_cons_zero, List.set_cons_succ]
              iterate 3 (refine wpG_quiet (by rfl) (by rfl) (by rfl) (fun K hK => ?_); go_big_quiet_op; refine hK _ ?_; clear hK K)
              refine wpG_call (by rfl) (by rfl) 18 #[.pointer (some ⟨gr, 0, none⟩)] (.int .i64 e2) (by intro _; simp [go_sem]) (by kernel_rfl) (fun w1 hl => HER.out w1 (T5.later hl.1)) ?_
              simp only [Act.put, List.setIfInBounds_toArray, List.set_cons_zero, List.set_cons_succ]
              iterate 8 (refine wpG_quiet (by rfl) (by rfl) (by rfl) (fun K hK => ?_); go_big_quiet_op; refine hK _ ?_; clear hK K)
              refine wpG_call (by rfl) (by rfl) 19 #[.pointer (some ⟨gr, 0, none⟩)] (.int .i64 rest) (by intro _; simp [go_sem]) (by kernel_rfl) (fun w1 hl => HLE.out w1 (T5.later hl.1)) ?_
              simp only [Act.put, List.setIfInBounds_toArray, List.set_cons_zero, List.set_cons_succ]
              iterate 7 (refine wpG_quiet (by rfl) (by rfl) (by rfl) (fun K hK => ?_); go_big_quiet_op; refine hK _ ?_; clear hK K)
              refine wpG_nil (fun w6 hl6 _ => ?_)
              have T6 := T5.later hl6
              go_wp2_with fail
              go_roundw
              case rel => exact ⟨k + 1, a2, e2, by omega, by go_num, T6, ha2, hm⟩
              case measure => simp [intOf]; omega
          · obtain rfl : k = 3 := by omega
            have hbr := HB3.out.trans (T.2.2.2.mono HB3.out.size)
            have HBR := Lib.hid hbr
            have HKR := Lib.hid (HK3.out.later T.2.2.2)
            have RG1 := HKR.out.range 0 ca (by rw [List.drop_zero, List.take_length])
            clear hbr T HT HK3 HB3
            go_wp2_with (first
              | (refine wpList_load_g (by rfl) 26 (.tmp 3) rfl w.heap.size 0 rfl ca _ RG1 hu rfl (by rw [HLA.out]; exact info_rp) ?_
                 simp only [Act.put, List.setIfInBounds_toArray, List.set_cons_zero, List.set_cons_succ])
              | fail)
            refine (HRCK.out _ HBR.out).mono ?_
            rintro e w5 ⟨rfl, hb5⟩
            have HB5 := Lib.hid (HBR.out.trans (hb5.mono HBR.out.size))
            have HK5 := Lib.hid (HKR.out.later hb5)
            clear hb5 HRCK RG1 HBR HKR
            by_cases hck : ck = true
            · subst hck
              have hok := HCKV.out.1 rfl
              have F1 := HRP.out hok
              have hpb := HPB.out hok
              have RG5 := HK5.out.range 0 ca (by rw [List.drop_zero, List.take_length])
              rw [← hpb] at F1
              obtain ⟨lq, hlq⟩ : ∃ lq, lq = pb ++ l := ⟨_, rfl⟩
              rw [← hlq] at F1
              obtain ⟨kq, hkq⟩ : ∃ k, k = pb.length := ⟨_, rfl⟩
              have HLL : Hid (lq.length = kq + n) := Lib.hid (by rw [hlq, List.length_append, hkq, HNL.out])
              have e3 : kq ≤ 1700 := by rw [hkq]; exact HPBL.out
              have MK : Hid (pb.length = kq) := Lib.hid hkq.symm
              have HLQ := Lib.hid hlq
              simp only [List.length_nil, Nat.zero_add] at F1
              rw [← hkq] at F1
              have HF1 := Lib.hid F1
              clear hok F1 hpb hlq hkq HCKV HRP HPB
              go_wp2_with (first
                | (refine wpList_load_g (by rfl) 26 (.tmp 3) rfl w.heap.size 0 rfl ca _ RG5 hu rfl (by rw [HLA.out]; exact info_rp) ?_
                   simp only [Act.put, List.setIfInBounds_toArray, List.set_cons_zero, List.set_cons_succ])
                | fail)
              refine (HP0.out w5 HB5.out).mono ?_
              rintro e w6 ⟨A3, c3, rfl, o3, b3⟩
              rw [MK.out] at o3 ⊢
              have hs6 := HSB.out w6 (HB5.out.trans (b3.mono HB5.out.size))
              obtain ⟨i0, hi, hz0, hz1, hz2⟩ := oct_parts
              clear HP0 RG5
              go_wp2_with (first
                | (at_builtin
                   refine wpList_app _ rfl (.tmp 96) (.tmp 97) _ rfl w5.heap.size 5 i0 _ 1 Try.underlying27 hi hz0 hz1 hz2 rfl (.slice A3 kq c3) (bvs pb) kq rfl (by rw [bvs_length, MK.out]) o3 w6.heap.size A c (bvs l) n rfl (by rw [bvs_length, HNL.out]) hs6 (bvs_one _) (by simp [maxLen]; omega) (by omega) b3.size ?_
                   intro A5 c5 w7 o5 b5 hg5 hat5)
                | fail)
              rw [← bvs_append, ← HLQ.out] at o5
              have hb7 := HB5.out.trans ((b3.trans b5).mono HB5.out.size)
              have HB7 := Lib.hid hb7
              have HK7 := Lib.hid (HK5.out.later (b3.trans b5))
              clear hs6 hi hz0 hz1 hz2 o3 hg5 hat5 b3 b5 hb7 HLQ
              refine (rd_new A5 (kq + n) c5 lq w7 HLL.out o5.sees (by omega)).mono ?_
              rintro e w8 ⟨g, rfl, r8, b8⟩
              have hgb := r8.block
              have H5 := Lib.hid (fun wx (hx : Rd wx w7.heap.size g lq 0 0) => lread_any w7.heap.size g lq 0 0 wx hx (Nat.zero_le _) (by rw [HLL.out]; omega))
              rw [HF1.out] at H5
              have HB8 := Lib.hid (HB7.out.trans (b8.mono HB7.out.size))
              have HK8 := Lib.hid (HK7.out.later b8)
              have hwz := HB7.out.size
              clear o5 b8 HF1
              go_wp2_with fail
              refine (H5.out _ r8).mono ?_
              rintro e w9 ⟨⟨ry, rfl, hoky, haby, hny, hfy⟩, R9, g9⟩
              simp only at haby R9
              have hb9 := HB8.out.grown g9 HB8.out.size (fun k e => by cases e; omega)
              have hk9 := HK8.out.kept g9 (by intro e; injection e with e; have := hgb.1; have := HK7.out.lt; omega)
              obtain ⟨TH9, HN9, HBN9⟩ := new_rp w.heap.size w w9 (rpc ry) (rpc_len ry) hb9 hb9.size
              obtain ⟨W10, hW10⟩ : ∃ W10, W10 = (w9.alloc (.cells #[.int .i64 0, .int .i64 0, .int .i64 0, .int .i64 0, .int .i64 0, .int .i64 0, .int .i64 0, .int .i64 0, .slice none 0 0, .int .u32 0] 26)).setCells w9.heap.size 0 (rpc ry) := ⟨_, rfl⟩
              rw [← hW10] at HN9 HBN9
              have hb10 := hb9.trans (HBN9.mono hb9.size)
              have R10 := R9.later HBN9
              have hk10 := hk9.later HBN9
              have hrx := HRX.out W10 hb10 ry (hoky.later HBN9) hny haby
              have RGY := HN9.range 0 (rpc ry) (by rw [List.drop_zero, List.take_length])
              have RGA := hk10.range 0 ca (by rw [List.drop_zero, List.take_length])
              have hony := all_oneCell_toArray (rpc_one ry)
              have HLY := Lib.hid (rpc_len ry)
              generalize rpc ry = cy at *
              have HRXY := Lib.hid hrx
              have HB10 := Lib.hid hb10
              have HW10 := Lib.hid hW10
              have HR10 := Lib.hid R10
              clear hrx hb10 hW10 hk10 hk9 hb9 HN9 HBN9 R9 R10 g9 hoky haby hny hfy r8 H5 HB8 HK8 HK7 HRX
              go_wp2_with (first
                | (refine wpList_store_mid rfl 26 (.tmp 11) (.tmp 101) rfl w9.heap.size 0 cy.toArray rfl rfl (by simpa [HLY.out] using TH9) (by simpa [HLY.out] using info_rp) hony ?_
                   rw [← HW10.out])
                | (refine wpList_load_g (by rfl) 26 (.tmp 11) rfl w9.heap.size 0 rfl cy _ RGY hu rfl (by rw [HLY.out]; exact info_rp) ?_
                   simp only [Act.put, List.setIfInBounds_toArray, List.set_cons_zero, List.set_cons_succ])
                | (refine wpList_load_g (by rfl) 26 (.tmp 3) rfl w.heap.size 0 rfl ca _ RGA hu rfl (by rw [HLA.out]; exact info_rp) ?_
                   simp only [Act.put, List.setIfInBounds_toArray, List.set_cons_zero, List.set_cons_succ])
                | fail)
              refine HRXY.out.mono ?_
              rintro e w11 ⟨rfl, b11⟩
              have R11 := HR10.out.later b11
              have HB11 := Lib.hid (HB10.out.trans (b11.mono HB10.out.size))
              clear b11 HR10 HB10 RGY RGA TH9 hony HRXY HW10
              go_wp2_with fail
              refine (rd_err w7.heap.size g lq kq 0 _ R11).mono ?_
              rintro e wd ⟨rfl, rfl⟩
              go_wp2_with fail
              refine (rd_left w7.heap.size g lq kq 0 _ R11 (by rw [HLL.out]; omega) (by rw [HLL.out]; omega)).mono ?_
              rintro e wd ⟨rfl, nk, rfl⟩
              rw [show ((lq.length : Nat) : Int) - (kq : Int) = (n : Int) from by rw [HLL.out]; omega]
              have HBD := Lib.hid (below_drewN HB11.out nk)
              clear R11 HB11
              go_wp2_with fail
              refine (lread_nil _).mono ?_
              rintro e wz ⟨rfl, hbz⟩
              have HBZ := Lib.hid (HBD.out.trans (hbz.mono HBD.out.size))
              have HZZ : Hid (Calls Try.prog 14 #[.agg (rpc zrp).toArray, .agg #[.int .i64 0, .int .i64 0, .int .i64 0, .int .i64 0, .int .i64 0, .int .i64 0, .int .i64 0, .int .i64 0, .slice none 0 0, .int .u32 0]] wz fun e w' => e = .returned (.bool true) ∧ Below wz.heap.size wz w') := Lib.hid (by have := rlsame_any zrp zrp wz (okRp.zero _) (okRp.zero _) (by simp [zrp]); rwa [decide_eq_true rfl] at this)
              clear hbz
              generalize (rpc zrp).toArray = czr at *
              go_wp2_with fail
              refine HZZ.out.mono ?_
              rintro e wy ⟨rfl, hby⟩
              have HBY := Lib.hid (HBZ.out.trans (hby.mono HBZ.out.size))
              clear hby
              go_wp2_with fail
              refine (lg_awake _).mono ?_
              rintro e wa ⟨rfl, hba⟩
              have HBA := Lib.hid (HBY.out.trans (hba.mono HBY.out.size))
              clear hba
              go_wp2_with fail
              go_ret
              exact ⟨rfl, HBA.out⟩
            · have hck : ck = false := by simpa using hck
              subst hck
              clear HCKV HRP HPB HP0 HRX
              go_wp2_with fail
              refine (lread_nil _).mono ?_
              rintro e wz ⟨rfl, hbz⟩
              have HBZ := Lib.hid (HB5.out.trans (hbz.mono HB5.out.size))
              have HZZ : Hid (Calls Try.prog 14 #[.agg (rpc zrp).toArray, .agg #[.int .i64 0, .int .i64 0, .int .i64 0, .int .i64 0, .int .i64 0, .int .i64 0, .int .i64 0, .int .i64 0, .slice none 0 0, .int .u32 0]] wz fun e w' => e = .returned (.bool true) ∧ Below wz.heap.size wz w') := Lib.hid (by have := rlsame_any zrp zrp wz (okRp.zero _) (okRp.zero _) (by simp [zrp]); rwa [decide_eq_true rfl] at this)
              clear hbz
              generalize (rpc zrp).toArray = czr at *
              go_wp2_with fail
              refine HZZ.out.mono ?_
              rintro e wy ⟨rfl, hby⟩
              have HBY := Lib.hid (HBZ.out.trans (hby.mono HBZ.out.size))
              clear hby
              go_wp2_with fail
              refine (lg_awake _).mono ?_
              rintro e wa ⟨rfl, hba⟩
              have HBA := Lib.hid (HBY.out.trans (hba.mono HBY.out.size))
              clear hba
              go_wp2_with fail
              go_ret
              exact ⟨rfl, HBA.out⟩
  · have d5 : decide ((1000 : Int) < (n : Int)) = true := by simp; omega
    have d5n : decide (1000 < n) = true := decide_eq_true (by omega)
    have kb8 : W0.cell? ⟨w.heap.size + 1, 8, none⟩ = some (.slice FA' fn' fc') := HKO8.out
    go_enter Try.func3, Try.ntmps3
    go_wp2_with fail
    rw [← HW0.out]
    refine HBA.out.mono ?_
    rintro e w2 ⟨rfl, rfl⟩
    clear HBA HW0
    by_cases hbig : lbig f = true
    · rw [hbig]
      clear hbig
      go_wp2_with fail
      refine (lg_awake _).mono ?_
      rintro e wa ⟨rfl, hba⟩
      have HBA := Lib.hid (HB1.out.trans (hba.mono HB1.out.size))
      clear hba
      go_wp2_with fail
      go_ret
      exact ⟨rfl, HBA.out⟩
    · have hbig : lbig f = false := by simpa using hbig
      rw [hbig]
      clear hbig
      go_wp2_with fail
      refine HBO.out.mono ?_
      rintro e w2 ⟨rfl, rfl⟩
      clear HBO kb8
      by_cases hbig : lbig f' = true
      · rw [hbig]
        clear hbig
        go_wp2_with fail
        refine (lg_awake _).mono ?_
        rintro e wa ⟨rfl, hba⟩
        have HBA := Lib.hid (HB1.out.trans (hba.mono HB1.out.size))
        clear hba
        go_wp2_with fail
        go_ret
        exact ⟨rfl, HBA.out⟩
      · have hbig : lbig f' = false := by simpa using hbig
        rw [hbig]
        clear hbig
        go_wp2_with fail
        refine (lg_awake _).mono ?_
        rintro e wa ⟨rfl, hba⟩
        have HBA := Lib.hid (HB1.out.trans (hba.mono HB1.out.size))
        clear hba
        go_wp2_with fail
        go_ret
        exact ⟨rfl, HBA.out⟩
end Go.Proofs.Ytadmaalhhigbeaa
