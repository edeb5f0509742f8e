/- Disks: the power goes, and comes again: Crash: what it returns. -/
import Derived.Test.YtjnfdhjnfginpaaDkF
namespace Go.Proofs.Ytjnfdhjnfginpaa
set_option linter.unusedVariables false
set_option linter.unusedSimpArgs false
open Go Go.RowKit

theorem outc_no {keep : List Int} {k : Nat} (h : keep.length ≤ k) : outc keep k = 0 := by unfold outc; rw [List.getElem?_eq_none h]
theorem outc_yes {keep : List Int} {k : Nat} (h : k < keep.length) : outc keep k = if 0 < keep[k] then keep[k] % 3 else 0 := by unfold outc; rw [List.getElem?_eq_getElem h]
set_option maxRecDepth 100000 in
set_option maxHeartbeats 6400000 in
theorem crash_any (L g b : Nat) (r : Option Nat) (D : Dk) (A1 : Option Addr) (n1 c1 : Nat) (keep : List Int) (w : World) (h : DkAt w L g b r D) (hin : DIn D) (hw : D.w.length ≤ 65536) (hL : L ≤ w.heap.size) (hk1 : keep.length = n1) (hn1 : n1 ≤ maxLen) (hs : ∀ W, Turn3 w W b b none → Sees W W.heap.size A1 (ivs keep)) :
    Calls Try.prog 15 #[.pointer (some ⟨g, 0, none⟩), .slice A1 n1 c1] w fun e w' => e = .returned (.tuple #[]) ∧ DkAt w' L g b none (dcrash D keep) ∧ Turn3 w w' g b r := by
  have hu := Try.underlying59
  obtain ⟨A, c, k0, k1, k2, k3, hrow, hre, hz⟩ := h.cells
  obtain ⟨n, hn⟩ : ∃ n, n = D.w.length := ⟨_, rfl⟩
  rw [← hn] at k1
  have hn16 : n ≤ 65536 := by rw [hn]; exact hw
  unfold maxLen at hn1
  have HN := Lib.hid hn
  have HKL := Lib.hid hk1
  have H1 := Lib.hid h
  have HIN0 := Lib.hid hin
  have hg1 := h.lt
  have HK1 := Lib.hid k1
  have HS := Lib.hid hs
  have HLL := Lib.hid hL
  have HLG : Hid (L ≤ g ∧ L ≤ b) := Lib.hid ⟨h.Lg, h.Lb⟩
  clear hrow hre hz k0 k2 k3 hn hw hL hk1 hs h hin
  go_enter Try.func15, Try.ntmps15
  go_wp2_with fail
  go_loopw [14] (fun i wr => ∃ k : Nat, k ≤ n ∧ i = .int .i64 (k : Int) ∧ Hid (DkAt wr L g b r { D with s := dkeep keep 0 D.s (D.w.take k) }) ∧ Hid (Turn3 w wr b b none)) (fun i _ => n - (intOf i).toNat)
  case atStart => exact ⟨0, by omega, rfl, Lib.hid H1.out, Lib.hid (Turn3.refl _ _ _ _)⟩
  case round =>
    obtain ⟨k, hk, rfl, HA, HT⟩ := hrel
    have hgb := HA.out.gb
    have k1' : wr.cell? ⟨g, 1, none⟩ = some (.slice A n c) := (HT.out.cell hg1.1 hgb).trans HK1.out
    by_cases hlt : k < n
    · have d1 : decide ((k : Int) < (n : Int)) = true := decide_eq_true (by omega)
      have hkl : k < D.w.length := by rw [← HN.out]; exact hlt
      obtain ⟨q, eA, hrq, hrg, hql⟩ := DkAt.wait HA.out k1' HN.out k hkl
      subst eA
      have HDA := Lib.hid (dkeep_take keep D.s D.w k hkl)
      have HIN : Hid (dhas { D with s := dkeep keep 0 D.s (D.w.take k) } D.w[k].1 = true) := Lib.hid (by
        have := HIN0.out _ (List.getElem_mem hkl)
        unfold dhas at *
        rw [show ({ D with s := dkeep keep 0 D.s (D.w.take k) } : Dk).s.length = D.s.length from dkeep_len _ _ _ _]
        exact this)
      obtain ⟨oc, hoc⟩ : ∃ oc, oc = outc keep k := ⟨_, rfl⟩
      rw [← hoc] at HDA
      obtain ⟨x, hx⟩ : ∃ x, x = D.w[k] := ⟨_, rfl⟩
      have hrg : wr.rangeAt q (k * 65) (wcell x) := by rw [hx]; exact hrg
      rw [← hx] at HDA HIN
      have ONE := all_oneCell_toArray (wcell_one x)
      obtain ⟨xc, hxc⟩ : ∃ xc, xc = wcell x := ⟨_, rfl⟩
      obtain ⟨zc, hzc⟩ : ∃ zc, zc = wcell (0, z64) := ⟨_, rfl⟩
      have HZA : Hid (∀ wx : World, (Instr.alloc 59 true (.tuple #[])).run Try.prog wx = .ok (.pointer (some ⟨wx.heap.size, 0, none⟩)) (wx.alloc (.cells zc.toArray 59))) := Lib.hid (fun wx => by rw [hzc]; exact zero_wr wx)
      have HXL : Hid (xc.length = 65) := Lib.hid (by rw [hxc, wcell_len])
      have HXZ : xc.length = zc.length := by rw [hxc, hzc, wcell_len, wcell_len]
      rw [← hxc] at hrg ONE
      have HXC := Lib.hid hxc
      have IN1 : (Try.prog.info? 59).map (·.size) = some xc.toArray.size := by rw [(List.size_toArray).trans HXL.out]; exact info_wri
      have BN := Blk.new wr zc 59
      have TH : (wr.alloc (.cells zc.toArray 59)).there wr.heap.size 0 xc.toArray.size := by
        rw [show xc.toArray.size = zc.length from (List.size_toArray).trans HXZ]
        exact BN.there 0 _ (by omega)
      have B2 := BN.sets xc 0 (by omega)
      rw [show zc.take 0 ++ xc ++ zc.drop (0 + xc.length) = xc by rw [Nat.zero_add, List.drop_eq_nil_of_le (by omega)]; simp] at B2
      obtain ⟨W2, hW2⟩ : ∃ W2, W2 = (wr.alloc (.cells zc.toArray 59)).setCells wr.heap.size 0 xc := ⟨_, rfl⟩
      rw [← hW2] at B2
      have L2 : Below wr.heap.size wr W2 := by rw [hW2]; exact below_sets (Nat.le_refl _) xc 0 ((Below.refl wr.heap.size wr).alloc (Nat.le_refl _) _)
      have R2 := B2.range 0 xc (by rw [List.drop_zero, List.take_length])
      have HL2 := Lib.hid L2
      have HA2 := Lib.hid (HA.out.later L2)
      have HT2 := Lib.hid (HT.out.trans (Turn3.of_below L2 b b none) (RowN.refl _ _))
      have HW2 := Lib.hid hW2
      have HSE := Lib.hid (settle_any L g b r { D with s := dkeep keep 0 D.s (D.w.take k) } x oc W2 HA2.out HIN.out)
      rw [← hxc] at HSE
      clear hx hxc hzc HXZ BN B2 hW2 L2 hrq hql HIN
      by_cases hk9 : k < n1
      · have d9 : decide ((k : Int) < (n1 : Int)) = true := decide_eq_true (by omega)
        have hkk : k < keep.length := by rw [HKL.out]; exact hk9
        obtain ⟨bk, ok, ek, hbk, hck⟩ := (HS.out W2 HT2.out).int k hkk
        subst ek
        have hoc2 := hoc.trans (outc_yes hkk)
        obtain ⟨z, hz⟩ : ∃ z, z = keep[k] := ⟨_, rfl⟩
        rw [← hz] at hck hoc2
        clear hz hoc
        by_cases hz0 : 0 < z
        · have dz : decide (0 < z) = true := decide_eq_true hz0
          rw [if_pos hz0] at hoc2
          have t1 : Int.tmod z 3 = oc := by rw [hoc2]; exact Int.tmod_eq_emod_of_nonneg (by omega)
          have t2 : z % 3 = oc := hoc2.symm
          clear hoc2
          go_wp2_with (first
            | (refine wpList_load_mid rfl 59 (.tmp 17) rfl q (k * 65) rfl xc _ hrg hu rfl (by rw [HXL.out]; exact info_wri) ?_)
            | (refine wpList_new rfl 59 rfl zc (HZA.out _) ?_)
            | (refine wpList_store_mid rfl 59 (.tmp 5) (.tmp 18) rfl wr.heap.size 0 xc.toArray rfl rfl TH IN1 ONE ?_
               simp only [Act.put]
               generalize hw6 : World.setCells _ wr.heap.size 0 xc.toArray.toList = w6
               have e6 : w6 = W2 := hw6.symm.trans HW2.out.symm
               subst e6
               clear hw6 TH hrg)
            | (refine wpList_load_mid rfl 59 (.tmp 5) rfl wr.heap.size 0 rfl xc _ R2 hu rfl (by rw [HXL.out]; exact info_wri) ?_)
            | fail)
          refine HSE.out.mono ?_
          rintro e w3 ⟨rfl, H3, T3⟩
          have H3 := Lib.hid H3
          have T3 := Lib.hid (HT2.out.trans T3 (RowN.refl _ _))
          clear R2 HSE HT2
          go_wp2_with fail
          go_roundw
          case rel => exact ⟨k + 1, by omega, by go_num, Lib.hid (by rw [HDA.out]; exact H3.out), T3⟩
          case measure => simp [intOf]; omega
        · have dz : decide (0 < z) = false := decide_eq_false hz0
          rw [if_neg hz0] at hoc2
          subst hoc2
          go_wp2_with (first
            | (refine wpList_load_mid rfl 59 (.tmp 17) rfl q (k * 65) rfl xc _ hrg hu rfl (by rw [HXL.out]; exact info_wri) ?_)
            | (refine wpList_new rfl 59 rfl zc (HZA.out _) ?_)
            | (refine wpList_store_mid rfl 59 (.tmp 5) (.tmp 18) rfl wr.heap.size 0 xc.toArray rfl rfl TH IN1 ONE ?_
               simp only [Act.put]
               generalize hw6 : World.setCells _ wr.heap.size 0 xc.toArray.toList = w6
               have e6 : w6 = W2 := hw6.symm.trans HW2.out.symm
               subst e6
               clear hw6 TH hrg)
            | (refine wpList_load_mid rfl 59 (.tmp 5) rfl wr.heap.size 0 rfl xc _ R2 hu rfl (by rw [HXL.out]; exact info_wri) ?_)
            | fail)
          refine HSE.out.mono ?_
          rintro e w3 ⟨rfl, H3, T3⟩
          have H3 := Lib.hid H3
          have T3 := Lib.hid (HT2.out.trans T3 (RowN.refl _ _))
          clear R2 HSE HT2
          go_wp2_with fail
          go_roundw
          case rel => exact ⟨k + 1, by omega, by go_num, Lib.hid (by rw [HDA.out]; exact H3.out), T3⟩
          case measure => simp [intOf]; omega
      · have d9 : decide ((k : Int) < (n1 : Int)) = false := decide_eq_false (by omega)
        have hoc2 := hoc.trans (outc_no (by rw [HKL.out]; omega))
        clear hoc
        subst hoc2
        go_wp2_with (first
          | (refine wpList_load_mid rfl 59 (.tmp 17) rfl q (k * 65) rfl xc _ hrg hu rfl (by rw [HXL.out]; exact info_wri) ?_)
          | (refine wpList_new rfl 59 rfl zc (HZA.out _) ?_)
          | (refine wpList_store_mid rfl 59 (.tmp 5) (.tmp 18) rfl wr.heap.size 0 xc.toArray rfl rfl TH IN1 ONE ?_
             simp only [Act.put]
             generalize hw6 : World.setCells _ wr.heap.size 0 xc.toArray.toList = w6
             have e6 : w6 = W2 := hw6.symm.trans HW2.out.symm
             subst e6
             clear hw6 TH hrg)
          | (refine wpList_load_mid rfl 59 (.tmp 5) rfl wr.heap.size 0 rfl xc _ R2 hu rfl (by rw [HXL.out]; exact info_wri) ?_)
          | fail)
        refine HSE.out.mono ?_
        rintro e w3 ⟨rfl, H3, T3⟩
        have H3 := Lib.hid H3
        have T3 := Lib.hid (HT2.out.trans T3 (RowN.refl _ _))
        clear R2 HSE HT2
        go_wp2_with fail
        go_roundw
        case rel => exact ⟨k + 1, by omega, by go_num, Lib.hid (by rw [HDA.out]; exact H3.out), T3⟩
        case measure => simp [intOf]; omega
    · obtain rfl : k = n := by omega
      have d1 : decide ((k : Int) < (k : Int)) = false := by simp
      have HTK : Hid (D.w.take k = D.w) := Lib.hid (List.take_of_length_le (by rw [← HN.out]; exact Nat.le_refl _))
      rw [HTK.out] at HA
      obtain ⟨A0, c0, B0, hr9, hre9⟩ := HA.out.at_
      have f1 := B0.frozen 1
      have f2 := B0.frozen 2
      have f3 := B0.frozen 3
      have q2 := B0.cell (j := 2) rfl
      have q3 := B0.cell (j := 3) rfl
      clear hr9 hre9 B0
      have HSN := Lib.hid (((DkAt.setNone HA.out).setDead false).setFuse (-1))
      have TT := Lib.hid (((HT.out.widen.trans (Turn3.set wr g b g 1 r (.slice none 0 0) (.inl rfl)) (RowN.refl _ _)).trans (Turn3.set _ g b g 3 r (.bool false) (.inl rfl)) (RowN.refl _ _)).trans (Turn3.set _ g b g 2 r (.int .i64 (-1)) (.inl rfl)) (RowN.refl _ _))
      go_wp2_with fail
      go_end0
      exact ⟨rfl, HSN.out, TT.out⟩
end Go.Proofs.Ytjnfdhjnfginpaa
