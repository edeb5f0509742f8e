/- Patches as bytes, by the document: what its PutPatch returns. -/
import Derived.Test.YticdpfjajkfheaaWirE
import Derived.Test.YticdpfjajkfheaaWirF
namespace Go.Proofs.Yticdpfjajkfheaa
set_option linter.unusedVariables false
open Go Go.RowKit BitM OctM

theorem fbs_lst_put (x : BitVec 32) (f : List V3) (k : Nat) (h : has x (k : Int) = true) : fbs (lst x (k + 1)) f = fbs (lst x k) f ++ vbs (f.getD k zv) := by
  rw [lst_succ, if_pos h, fbs_snoc]; simp
theorem lst_skip (x : BitVec 32) (k : Nat) (h : has x (k : Int) = false) : lst x (k + 1) = lst x k := by
  rw [lst_succ, if_neg (by rw [h]; simp)]; simp

set_option maxRecDepth 100000 in
set_option maxHeartbeats 3200000 in
theorem rputpatch_any (x : BitVec 32) (lab : Int) (f : List V3) (w : World) (hf : f.length = 8) (hlb : 0 ≤ lab) :
    Calls Try.prog 14 #[.agg (pcells (x.toNat : Int) lab f).toArray] w fun e w' => e = .returned (.string (str (pbs x lab f))) ∧ Below w.heap.size w w' := by
  have HCK := Lib.hid (fun wx : World => rpcheck_any x lab f wx hf)
  have HPLen : Hid ((pcells (x.toNat : Int) lab f).length = 26) := Lib.hid (pcells_len _ _ hf)
  have B0 := Blk.new w (pcells (x.toNat : Int) lab f) 29
  obtain ⟨pc, hpc⟩ : ∃ pc, pc = pcells (x.toNat : Int) lab f := ⟨_, rfl⟩
  rw [← hpc] at HCK B0 HPLen ⊢
  have hb0 := (Below.refl w.heap.size w).alloc (Nat.le_refl _) (.cells pc.toArray 29)
  have RG := B0.wholeC
  have hu := Try.underlying29
  have HF := Lib.hid hf
  obtain ⟨er, her⟩ : ∃ b, b = pchk x lab f := ⟨_, rfl⟩
  rw [← her] at HCK
  by_cases h0 : er = 0
  · have hok : pchk x lab f = 0 := her.symm.trans h0
    have hlab : lab < 65536 := by
      unfold pchk at hok
      split at hok
      · cases hok
      · split at hok
        · cases hok
        · omega
    have HB : Hid (pbs x lab f = (enc (held (x.toNat : Int)) ++ (if has x 8 = true then enc (held lab) else [])) ++ fbs (lst x 8) f) := Lib.hid (by unfold pbs; rw [if_neg (by rw [hok]; simp), flds_lst])
    obtain ⟨R, hR⟩ : ∃ R, R = str (pbs x lab f) := ⟨_, rfl⟩
    have HR := Lib.hid hR
    rw [← hR]
    have HPC := Lib.hid hpc
    have be : (er != 0) = false := by simp [h0]
    have HLB := Lib.hid (fun wx : World => rlabels_any x wx)
    have HHS := Lib.hid (fun (k : Nat) (wx : World) => rhas_any x (k : Int) wx)
    have HN1 := Lib.hid (fun wx : World => ref_num (x.toNat : Int) wx)
    have HN2 := Lib.hid (fun wx : World => ref_num lab wx)
    obtain ⟨s1, hs1⟩ : ∃ s, s = str (enc (held (x.toNat : Int))) := ⟨_, rfl⟩
    obtain ⟨s2, hs2⟩ : ∃ s, s = str (enc (held lab)) := ⟨_, rfl⟩
    rw [← hs1] at HN1
    rw [← hs2] at HN2
    have z1 : s1.size ≤ 6 := by rw [hs1, str_size]; exact held_len _
    have z2 : s2.size ≤ 6 := by rw [hs2, str_size]; exact held_len _
    obtain ⟨b8, hb8⟩ : ∃ b, b = has x 8 := ⟨_, rfl⟩
    rw [← hb8] at HLB HB
    obtain ⟨s0, hs0⟩ : ∃ s, s = if b8 = true then s1 ++ s2 else s1 := ⟨_, rfl⟩
    have z0 : s0.size ≤ 12 := by
      rw [hs0]
      split
      · rw [ByteArray.size_append]; omega
      · omega
    have HRR : Hid (∀ t : ByteArray, t = str (fbs (lst x 8) f) → s0 ++ t = R) := Lib.hid (fun t ht => by
      rw [HR.out, HB.out, hs0, ht, hs1, hs2]
      cases b8
      · simp [str_append]
      · simp [str_append])
    have HS0 : Hid (b8 = false → s1 = s0) := Lib.hid (fun hb => by rw [hs0, hb]; simp)
    have HS1 : Hid (b8 = true → s1 ++ s2 = s0) := Lib.hid (fun hb => by rw [hs0, hb]; simp)
    have hx4 := x.isLt
    obtain ⟨X, hX⟩ : ∃ X, X = x.toNat := ⟨_, rfl⟩
    rw [← hX] at HN1 hx4 HHS HLB HPC
    obtain ⟨p0, p1⟩ := Blk.patch (m := (X : Int)) (lab := lab) (f := f) (by have := B0; rw [HPC.out] at this; exact this)
    clear hs1 hs2 hs0 hR hpc hb8 hok her h0 hf hX HB p0 p1
    cases b8
    all_goals
      go_enter Try.func14, Try.ntmps14
      go_wp2_with (first
        | (refine wpList_load_mid rfl 29 (.tmp 1) rfl w.heap.size 0 rfl pc _ RG hu rfl (by rw [HPLen.out]; exact info_patch) ?_)
        | fail)
      refine (HCK.out _).mono ?_
      rintro e w1 ⟨rfl, hb1⟩
      have hbw := hb0.trans (hb1.mono hb0.size)
      replace B0 := B0.later hb1
      obtain ⟨p0, p1⟩ := Blk.patch (m := (X : Int)) (lab := lab) (f := f) (w := w1) (g := w.heap.size) (by rw [← HPC.out]; exact B0)
      clear RG hb1 hb0 HCK
      go_wp2_with fail
      refine (HN1.out _).mono ?_
      rintro e w2 ⟨rfl, hb2⟩
      replace hbw := hbw.trans (hb2.mono hbw.size)
      replace B0 := B0.later hb2
      clear p0 p1 hb2
      obtain ⟨p0, p1⟩ := Blk.patch (m := (X : Int)) (lab := lab) (f := f) (w := w2) (g := w.heap.size) (by rw [← HPC.out]; exact B0)
      go_wp2_with fail
      refine (HLB.out _).mono ?_
      rintro e w3 ⟨rfl, rfl⟩
    · have HE : Hid (s1 = s0 ++ ⟨#[]⟩) := Lib.hid (by rw [HS0.out trivial]; exact (ByteArray.append_empty (b := s0)).symm)
      have z1' : s1.size ≤ 12 := by omega
      clear HS0 HS1
      go_wp2_with fail
      clear HN1 HN2 z1 z2 HLB hx4
      go_loopw [3, 4] (fun sv i wr => ∃ k : Nat, k ≤ 8 ∧ i = .int .i64 k ∧ (∃ t u : ByteArray, sv = .string t ∧ Hid (t = s0 ++ u ∧ u = str (fbs (lst x k) f)) ∧ t.size ≤ 12 + 40 * k) ∧ Blk wr w.heap.size pc ∧ Below w.heap.size w wr) (fun _ i _ => 8 - (intOf i).toNat)
      case atStart => exact ⟨0, by omega, rfl, ⟨_, ⟨#[]⟩, rfl, Lib.hid ⟨HE.out, rfl⟩, by omega⟩, B0, hbw⟩
      case round =>
        obtain ⟨k, hk, rfl, ⟨t, u, rfl, HT, ht⟩, D0, hbr⟩ := hrel
        by_cases hlt : k < 8
        · have hkf : k < f.length := by rw [HF.out]; exact hlt
          have HH := Lib.hid (fun wx : World => HHS.out k wx)
          have c0 : ∀ kk : LW wr, kk.val.cell? ⟨w.heap.size, 0, none⟩ = some (.int .u32 (X : Int)) := fun kk => (Blk.patch (lab := lab) (f := f) (by have := D0.later kk.le; rw [HPC.out] at this; exact this)).1
          obtain ⟨p0, p1⟩ := Blk.patch (m := (X : Int)) (lab := lab) (f := f) (w := wr) (g := w.heap.size) (by rw [← HPC.out]; exact D0)
          obtain ⟨l0, l1, l2⟩ := Blk.field (pre := [.int .u32 (X : Int), .int .u32 lab]) (f := f) (g := w.heap.size) (w := wr) (by have := D0; rw [HPC.out] at this; exact this) 2 k rfl hkf
          have hg : f.getD k zv = f[k] := by simp [List.getD, hkf]
          obtain ⟨⟨v0, v1, v2⟩, hv⟩ : ∃ v, v = f[k] := ⟨_, rfl⟩
          rw [← hv] at l0 l1 l2 hg
          simp only at l0 l1 l2
          have hki : (k : Int) < 8 := by omega
          have hk0 : (0 : Int) ≤ (k : Int) := by omega
          obtain ⟨bk, hbk⟩ : ∃ b, b = has x (k : Int) := ⟨_, rfl⟩
          rw [← hbk] at HH
          cases bk
          · have HK2 : Hid (lst x (k + 1) = lst x k) := Lib.hid (lst_skip x k hbk.symm)
            clear hbk hv hg hkf l0 l1 l2 p1 c0
            go_wp2_with fail
            refine (HH.out _).mono ?_
            rintro e w4 ⟨rfl, rfl⟩
            go_wp2_with fail
            go_roundw
            case rel => exact ⟨k + 1, by omega, by go_num, ⟨t, u, rfl, Lib.hid ⟨HT.out.1, by rw [HK2.out]; exact HT.out.2⟩, by omega⟩, D0, hbr⟩
            case measure => simp [intOf]; omega
          · have HK2 : Hid (fbs (lst x (k + 1)) f = fbs (lst x k) f ++ vbs (v0, v1, v2)) := Lib.hid (by rw [← hg]; exact fbs_lst_put x f k hbk.symm)
            have HPV := Lib.hid (fun wx : World => rputval_any v0 v1 v2 wx)
            obtain ⟨t2, ht2⟩ : ∃ t2, t2 = str (vbs (v0, v1, v2)) := ⟨_, rfl⟩
            rw [← ht2] at HPV
            have hz2 : t2.size ≤ 40 := by rw [ht2, str_size]; exact vbs_len _
            have HTT : Hid (t ++ t2 = s0 ++ (u ++ t2) ∧ u ++ t2 = str (fbs (lst x (k + 1)) f)) := Lib.hid ⟨by rw [HT.out.1, ByteArray.append_assoc], by rw [HK2.out, HT.out.2, ht2]; first | exact (str_append _ _).symm | exact str_append _ _⟩
            have hsz : (t ++ t2).size = t.size + t2.size := by simp
            have HSZ := Lib.hid hsz
            clear hbk hv hg hkf ht2 hsz p1 c0
            go_wp2_with fail
            refine (HH.out _).mono ?_
            rintro e w4 ⟨rfl, rfl⟩
            go_wp2_with fail
            refine (HPV.out _).mono ?_
            rintro e w4 ⟨rfl, hb4⟩
            have D2 := D0.later hb4
            have hbr2 := hbr.trans (hb4.mono hbr.size)
            clear D0 hb4 hbr l0 l1 l2
            go_wp2_with fail
            go_roundw
            case rel => exact ⟨k + 1, by omega, by go_num, ⟨t ++ t2, u ++ t2, rfl, HTT, by rw [HSZ.out]; omega⟩, D2, hbr2⟩
            case measure => simp [intOf]; omega
        · obtain rfl : k = 8 := by omega
          have HR8 := HRR.out u HT.out.2
          rw [← HT.out.1] at HR8
          subst HR8
          clear HRR HT
          go_wp2_with fail
          go_ret
          exact ⟨rfl, hbr⟩
    · have HE : Hid (s1 ++ s2 = s0 ++ ⟨#[]⟩) := Lib.hid (by rw [HS1.out trivial]; exact (ByteArray.append_empty (b := s0)).symm)
      have z1' : (s1 ++ s2).size ≤ 12 := by rw [ByteArray.size_append]; omega
      have Z1 := Lib.hid z1'
      clear HS0 HS1 z1'
      go_wp2_with fail
      refine (HN2.out _).mono ?_
      rintro e w4 ⟨rfl, hb4⟩
      replace hbw := hbw.trans (hb4.mono hbw.size)
      replace B0 := B0.later hb4
      clear p0 p1 hb4
      go_wp2_with fail
      have z1' := Z1.out
      clear HN1 HN2 z1 z2 HLB hx4
      go_loopw [3, 4] (fun sv i wr => ∃ k : Nat, k ≤ 8 ∧ i = .int .i64 k ∧ (∃ t u : ByteArray, sv = .string t ∧ Hid (t = s0 ++ u ∧ u = str (fbs (lst x k) f)) ∧ t.size ≤ 12 + 40 * k) ∧ Blk wr w.heap.size pc ∧ Below w.heap.size w wr) (fun _ i _ => 8 - (intOf i).toNat)
      case atStart => exact ⟨0, by omega, rfl, ⟨_, ⟨#[]⟩, rfl, Lib.hid ⟨HE.out, rfl⟩, by omega⟩, B0, hbw⟩
      case round =>
        obtain ⟨k, hk, rfl, ⟨t, u, rfl, HT, ht⟩, D0, hbr⟩ := hrel
        by_cases hlt : k < 8
        · have hkf : k < f.length := by rw [HF.out]; exact hlt
          have HH := Lib.hid (fun wx : World => HHS.out k wx)
          have c0 : ∀ kk : LW wr, kk.val.cell? ⟨w.heap.size, 0, none⟩ = some (.int .u32 (X : Int)) := fun kk => (Blk.patch (lab := lab) (f := f) (by have := D0.later kk.le; rw [HPC.out] at this; exact this)).1
          obtain ⟨p0, p1⟩ := Blk.patch (m := (X : Int)) (lab := lab) (f := f) (w := wr) (g := w.heap.size) (by rw [← HPC.out]; exact D0)
          obtain ⟨l0, l1, l2⟩ := Blk.field (pre := [.int .u32 (X : Int), .int .u32 lab]) (f := f) (g := w.heap.size) (w := wr) (by have := D0; rw [HPC.out] at this; exact this) 2 k rfl hkf
          have hg : f.getD k zv = f[k] := by simp [List.getD, hkf]
          obtain ⟨⟨v0, v1, v2⟩, hv⟩ : ∃ v, v = f[k] := ⟨_, rfl⟩
          rw [← hv] at l0 l1 l2 hg
          simp only at l0 l1 l2
          have hki : (k : Int) < 8 := by omega
          have hk0 : (0 : Int) ≤ (k : Int) := by omega
          obtain ⟨bk, hbk⟩ : ∃ b, b = has x (k : Int) := ⟨_, rfl⟩
          rw [← hbk] at HH
          cases bk
          · have HK2 : Hid (lst x (k + 1) = lst x k) := Lib.hid (lst_skip x k hbk.symm)
            clear hbk hv hg hkf l0 l1 l2 p1 c0
            go_wp2_with fail
            refine (HH.out _).mono ?_
            rintro e w4 ⟨rfl, rfl⟩
            go_wp2_with fail
            go_roundw
            case rel => exact ⟨k + 1, by omega, by go_num, ⟨t, u, rfl, Lib.hid ⟨HT.out.1, by rw [HK2.out]; exact HT.out.2⟩, by omega⟩, D0, hbr⟩
            case measure => simp [intOf]; omega
          · have HK2 : Hid (fbs (lst x (k + 1)) f = fbs (lst x k) f ++ vbs (v0, v1, v2)) := Lib.hid (by rw [← hg]; exact fbs_lst_put x f k hbk.symm)
            have HPV := Lib.hid (fun wx : World => rputval_any v0 v1 v2 wx)
            obtain ⟨t2, ht2⟩ : ∃ t2, t2 = str (vbs (v0, v1, v2)) := ⟨_, rfl⟩
            rw [← ht2] at HPV
            have hz2 : t2.size ≤ 40 := by rw [ht2, str_size]; exact vbs_len _
            have HTT : Hid (t ++ t2 = s0 ++ (u ++ t2) ∧ u ++ t2 = str (fbs (lst x (k + 1)) f)) := Lib.hid ⟨by rw [HT.out.1, ByteArray.append_assoc], by rw [HK2.out, HT.out.2, ht2]; first | exact (str_append _ _).symm | exact str_append _ _⟩
            have hsz : (t ++ t2).size = t.size + t2.size := by simp
            have HSZ := Lib.hid hsz
            clear hbk hv hg hkf ht2 hsz p1 c0
            go_wp2_with fail
            refine (HH.out _).mono ?_
            rintro e w4 ⟨rfl, rfl⟩
            go_wp2_with fail
            refine (HPV.out _).mono ?_
            rintro e w4 ⟨rfl, hb4⟩
            have D2 := D0.later hb4
            have hbr2 := hbr.trans (hb4.mono hbr.size)
            clear D0 hb4 hbr l0 l1 l2
            go_wp2_with fail
            go_roundw
            case rel => exact ⟨k + 1, by omega, by go_num, ⟨t ++ t2, u ++ t2, rfl, HTT, by rw [HSZ.out]; omega⟩, D2, hbr2⟩
            case measure => simp [intOf]; omega
        · obtain rfl : k = 8 := by omega
          have HR8 := HRR.out u HT.out.2
          rw [← HT.out.1] at HR8
          subst HR8
          clear HRR HT
          go_wp2_with fail
          go_ret
          exact ⟨rfl, hbr⟩
  · have HB : Hid (str (pbs x lab f) = ⟨#[]⟩) := Lib.hid (by unfold pbs; rw [if_pos (by rw [← her]; exact h0)]; rfl)
    rw [HB.out]
    have be : (er != 0) = true := by simp [h0]
    clear HB her h0 hpc hf
    go_enter Try.func14, Try.ntmps14
    go_wp2_with (first
      | (refine wpList_load_mid rfl 29 (.tmp 1) rfl w.heap.size 0 rfl pc _ RG hu rfl (by rw [HPLen.out]; exact info_patch) ?_)
      | fail)
    refine (HCK.out _).mono ?_
    rintro e w1 ⟨rfl, hb1⟩
    have hbw := hb0.trans (hb1.mono hb0.size)
    clear RG hb1 hb0
    go_wp2_with fail
    go_ret
    exact ⟨rfl, hbw⟩
end Go.Proofs.Yticdpfjajkfheaa
