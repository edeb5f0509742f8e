/- Patches as bytes, by the document: what its PutPatch returns. -/
import Derived.Test.YtgpbglmlakildaaG11
import Derived.Test.YtgpbglmlakildaaG10
import Derived.Test.YtgpbglmlakildaaG3
import Derived.Lib.SmallJoins
import Derived.Deep.Strs
import Derived.Test.YtgpbglmlakildaaG2
import Derived.Deep.Slices
import Derived.Test.YtgpbglmlakildaaG1
import Derived.Test.YtgpbglmlakildaaG8
import Derived.Handy
namespace Go.Proofs.Ytgpbglmlakildaa
set_option linter.unusedVariables false
open Go Go.RowKit BitM OctM

theorem fbs_lst_put (x : BitVec 32) (f : List V3) (k : Nat) (h : has x (k : Int) = true) : fbs (lst x (k + 1)) f = fbs (lst x k) f ++ vbs (f.getD k zv) := by
  rw [lst_succ, if_pos h, fbs_snoc]; simp
theorem lst_skip (x : BitVec 32) (k : Nat) (h : has x (k : Int) = false) : lst x (k + 1) = lst x k := by
  rw [lst_succ, if_neg (by rw [h]; simp)]; simp

set_option maxRecDepth 100000 in
set_option maxHeartbeats 3200000 in
theorem rputpatch_any (x : BitVec 32) (lab : Int) (f : List V3) (w : World) (hf : f.length = 8) (hlb : 0 ≤ lab) :
    Calls Try.prog 82 #[.agg (pcells (x.toNat : Int) lab f).toArray] w fun e w' => e = .returned (.string (str (pbs x lab f))) ∧ Below w.heap.size w w' := by
  have HCK := Lib.hid (fun wx : World => rpcheck_any x lab f wx hf)
  have HPLen : Hid ((pcells (x.toNat : Int) lab f).length = 26) := Lib.hid (pcells_len _ _ hf)
  have B0 := Blk.new w (pcells (x.toNat : Int) lab f) 61
  obtain ⟨pc, hpc⟩ : ∃ pc, pc = pcells (x.toNat : Int) lab f := ⟨_, rfl⟩
  rw [← hpc] at HCK B0 HPLen ⊢
  have hb0 := (Below.refl w.heap.size w).alloc (Nat.le_refl _) (.cells pc.toArray 61)
  have RG := B0.wholeC
  have hu := Try.underlying61
  have HF := Lib.hid hf
  obtain ⟨er, her⟩ : ∃ b, b = pchk x lab f := ⟨_, rfl⟩
  rw [← her] at HCK
  by_cases h0 : er = 0
  · have hok : pchk x lab f = 0 := her.symm.trans h0
    have hlab : lab < 65536 := by
      unfold pchk at hok
      split at hok
      · cases hok
      · split at hok
        · cases hok
        · omega
    have HB : Hid (pbs x lab f = (enc (held (x.toNat : Int)) ++ (if has x 8 = true then enc (held lab) else [])) ++ fbs (lst x 8) f) := Lib.hid (by unfold pbs; rw [if_neg (by rw [hok]; simp), flds_lst])
    obtain ⟨R, hR⟩ : ∃ R, R = str (pbs x lab f) := ⟨_, rfl⟩
    have HR := Lib.hid hR
    rw [← hR]
    have HPC := Lib.hid hpc
    have be : (er != 0) = false := by simp [h0]
    have HLB := Lib.hid (fun wx : World => rlabels_any x wx)
    have HHS := Lib.hid (fun (k : Nat) (wx : World) => rhas_any x (k : Int) wx)
    have HN1 := Lib.hid (fun wx : World => ref_num (x.toNat : Int) wx)
    have HN2 := Lib.hid (fun wx : World => ref_num lab wx)
    obtain ⟨s1, hs1⟩ : ∃ s, s = str (enc (held (x.toNat : Int))) := ⟨_, rfl⟩
    obtain ⟨s2, hs2⟩ : ∃ s, s = str (enc (held lab)) := ⟨_, rfl⟩
    rw [← hs1] at HN1
    rw [← hs2] at HN2
    have z1 : s1.size ≤ 6 := by rw [hs1, str_size]; exact held_len _
    have z2 : s2.size ≤ 6 := by rw [hs2, str_size]; exact held_len _
    obtain ⟨b8, hb8⟩ : ∃ b, b = has x 8 := ⟨_, rfl⟩
    rw [← hb8] at HLB HB
    obtain ⟨s0, hs0⟩ : ∃ s, s = if b8 = true then s1 ++ s2 else s1 := ⟨_, rfl⟩
    have z0 : s0.size ≤ 12 := by
      rw [hs0]
      split
      · rw [ByteArray.size_append]; omega
      · omega
    have HRR : Hid (∀ t : ByteArray, t = str (fbs (lst x 8) f) → s0 ++ t = R) := Lib.hid (fun t ht => by
      rw [HR.out, HB.out, hs0, ht, hs1, hs2]
      cases b8
      · simp [str_append]
      · simp [str_append])
    have HS0 : Hid (b8 = false → s1 = s0) := Lib.hid (fun hb => by rw [hs0, hb]; simp)
    have HS1 : Hid (b8 = true → s1 ++ s2 = s0) := Lib.hid (fun hb => by rw [hs0, hb]; simp)
    have hx4 := x.isLt
    obtain ⟨X, hX⟩ : ∃ X, X = x.toNat := ⟨_, rfl⟩
    rw [← hX] at HN1 hx4 HHS HLB HPC
    obtain ⟨p0, p1⟩ := Blk.patch (m := (X : Int)) (lab := lab) (f := f) (by have := B0; rw [HPC.out] at this; exact this)
    clear hs1 hs2 hs0 hR hpc hb8 hok her h0 hf hX HB p0 p1
    cases b8
    all_goals
      go_enter Try.func82, Try.ntmps82
      go_wp2_with (first
        | (refine wpList_load_mid rfl 61 (.tmp 1) rfl w.heap.size 0 rfl pc _ RG hu rfl (by rw [HPLen.out]; exact info_patch) ?_)
        | fail)
      refine (HCK.out _).mono ?_
      rintro e w1 ⟨rfl, hb1⟩
      have hbw := hb0.trans (hb1.mono hb0.size)
      replace B0 := B0.later hb1
      obtain ⟨p0, p1⟩ := Blk.patch (m := (X : Int)) (lab := lab) (f := f) (w := w1) (g := w.heap.size) (by rw [← HPC.out]; exact B0)
      clear RG hb1 hb0 HCK
      go_wp2_with fail
      refine (HN1.out _).mono ?_
      rintro e w2 ⟨rfl, hb2⟩
      replace hbw := hbw.trans (hb2.mono hbw.size)
      replace B0 := B0.later hb2
      clear p0 p1 hb2
      obtain ⟨p0, p1⟩ := Blk.patch (m := (X : Int)) (lab := lab) (f := f) (w := w2) (g := w.heap.size) (by rw [← HPC.out]; exact B0)
      go_wp2_with fail
      refine (HLB.out _).mono ?_
      rintro e w3 ⟨rfl, rfl⟩
    · have HE : Hid (s1 = s0 ++ ⟨#[]⟩) := Lib.hid (by rw [HS0.out trivial]; exact (ByteArray.append_empty (b := s0)).symm)
      have z1' : s1.size ≤ 12 := by omega
      clear HS0 HS1
      go_wp2_with fail
      clear HN1 HN2 z1 z2 HLB hx4
      go_loopw [3, 4] (fun sv i wr => ∃ k : Nat, k ≤ 8 ∧ i = .int .i64 k ∧ (∃ t u : ByteArray, sv = .string t ∧ Hid (t = s0 ++ u ∧ u = str (fbs (lst x k) f)) ∧ t.size ≤ 12 + 40 * k) ∧ Blk wr w.heap.size pc ∧ Below w.heap.size w wr) (fun _ i _ => 8 - (intOf i).toNat)
      case atStart => exact ⟨0, by omega, rfl, ⟨_, ⟨#[]⟩, rfl, Lib.hid ⟨HE.out, rfl⟩, by omega⟩, B0, hbw⟩
      case round =>
        obtain ⟨k, hk, rfl, ⟨t, u, rfl, HT, ht⟩, D0, hbr⟩ := hrel
        by_cases hlt : k < 8
        · have hkf : k < f.length := by rw [HF.out]; exact hlt
          have HH := Lib.hid (fun wx : World => HHS.out k wx)
          have c0 : ∀ kk : LW wr, kk.val.cell? ⟨w.heap.size, 0, none⟩ = some (.int .u32 (X : Int)) := fun kk => (Blk.patch (lab := lab) (f := f) (by have := D0.later kk.le; rw [HPC.out] at this; exact this)).1
          obtain ⟨p0, p1⟩ := Blk.patch (m := (X : Int)) (lab := lab) (f := f) (w := wr) (g := w.heap.size) (by rw [← HPC.out]; exact D0)
          obtain ⟨l0, l1, l2⟩ := Blk.field (pre := [.int .u32 (X : Int), .int .u32 lab]) (f := f) (g := w.heap.size) (w := wr) (by have := D0; rw [HPC.out] at this; exact this) 2 k rfl hkf
          have hg : f.getD k zv = f[k] := by simp [List.getD, hkf]
          obtain ⟨⟨v0, v1, v2⟩, hv⟩ : ∃ v, v = f[k] := ⟨_, rfl⟩
          rw [← hv] at l0 l1 l2 hg
          simp only at l0 l1 l2
          have hki : (k : Int) < 8 := by omega
          have hk0 : (0 : Int) ≤ (k : Int) := by omega
          obtain ⟨bk, hbk⟩ : ∃ b, b = has x (k : Int) := ⟨_, rfl⟩
          rw [← hbk] at HH
          cases bk
          · have HK2 : Hid (lst x (k + 1) = lst x k) := Lib.hid (lst_skip x k hbk.symm)
            clear hbk hv hg hkf l0 l1 l2 p1 c0
            go_wp2_with fail
            refine (HH.out _).mono ?_
            rintro e w4 ⟨rfl, rfl⟩
            go_wp2_with fail
            go_roundw
            case rel => exact ⟨k + 1, by omega, by go_num, ⟨t, u, rfl, Lib.hid ⟨HT.out.1, by rw [HK2.out]; exact HT.out.2⟩, by omega⟩, D0, hbr⟩
            case measure => simp [intOf]; omega
          · have HK2 : Hid (fbs (lst x (k + 1)) f = fbs (lst x k) f ++ vbs (v0, v1, v2)) := Lib.hid (by rw [← hg]; exact fbs_lst_put x f k hbk.symm)
            have HPV := Lib.hid (fun wx : World => rputval_any v0 v1 v2 wx)
            obtain ⟨t2, ht2⟩ : ∃ t2, t2 = str (vbs (v0, v1, v2)) := ⟨_, rfl⟩
            rw [← ht2] at HPV
            have hz2 : t2.size ≤ 40 := by rw [ht2, str_size]; exact vbs_len _
            have HTT : Hid (t ++ t2 = s0 ++ (u ++ t2) ∧ u ++ t2 = str (fbs (lst x (k + 1)) f)) := Lib.hid ⟨by rw [HT.out.1, ByteArray.append_assoc], by rw [HK2.out, HT.out.2, ht2]; first | exact (str_append _ _).symm | exact str_append _ _⟩
            have hsz : (t ++ t2).size = t.size + t2.size := by simp
            have HSZ := Lib.hid hsz
            clear hbk hv hg hkf ht2 hsz p1 c0
            go_wp2_with fail
            refine (HH.out _).mono ?_
            rintro e w4 ⟨rfl, rfl⟩
            go_wp2_with fail
            refine (HPV.out _).mono ?_
            rintro e w4 ⟨rfl, hb4⟩
            have D2 := D0.later hb4
            have hbr2 := hbr.trans (hb4.mono hbr.size)
            clear D0 hb4 hbr l0 l1 l2
            go_wp2_with fail
            go_roundw
            case rel => exact ⟨k + 1, by omega, by go_num, ⟨t ++ t2, u ++ t2, rfl, HTT, by rw [HSZ.out]; omega⟩, D2, hbr2⟩
            case measure => simp [intOf]; omega
        · obtain rfl : k = 8 := by omega
          have HR8 := HRR.out u HT.out.2
          rw [← HT.out.1] at HR8
          subst HR8
          clear HRR HT
          go_wp2_with fail
          go_ret
          exact ⟨rfl, hbr⟩
    · have HE : Hid (s1 ++ s2 = s0 ++ ⟨#[]⟩) := Lib.hid (by rw [HS1.out trivial]; exact (ByteArray.append_empty (b := s0)).symm)
      have z1' : (s1 ++ s2).size ≤ 12 := by rw [ByteArray.size_append]; omega
      have Z1 := Lib.hid z1'
      clear HS0 HS1 z1'
      go_wp2_with fail
      refine (HN2.out _).mono ?_
      rintro e w4 ⟨rfl, hb4⟩
      replace hbw := hbw.trans (hb4.mono hbw.size)
      replace B0 := B0.later hb4
      clear p0 p1 hb4
      go_wp2_with fail
      have z1' := Z1.out
      clear HN1 HN2 z1 z2 HLB hx4
      go_loopw [3, 4] (fun sv i wr => ∃ k : Nat, k ≤ 8 ∧ i = .int .i64 k ∧ (∃ t u : ByteArray, sv = .string t ∧ Hid (t = s0 ++ u ∧ u = str (fbs (lst x k) f)) ∧ t.size ≤ 12 + 40 * k) ∧ Blk wr w.heap.size pc ∧ Below w.heap.size w wr) (fun _ i _ => 8 - (intOf i).toNat)
      case atStart => exact ⟨0, by omega, rfl, ⟨_, ⟨#[]⟩, rfl, Lib.hid ⟨HE.out, rfl⟩, by omega⟩, B0, hbw⟩
      case round =>
        obtain ⟨k, hk, rfl, ⟨t, u, rfl, HT, ht⟩, D0, hbr⟩ := hrel
        by_cases hlt : k < 8
        · have hkf : k < f.length := by rw [HF.out]; exact hlt
          have HH := Lib.hid (fun wx : World => HHS.out k wx)
          have c0 : ∀ kk : LW wr, kk.val.cell? ⟨w.heap.size, 0, none⟩ = some (.int .u32 (X : Int)) := fun kk => (Blk.patch (lab := lab) (f := f) (by have := D0.later kk.le; rw [HPC.out] at this; exact this)).1
          obtain ⟨p0, p1⟩ := Blk.patch (m := (X : Int)) (lab := lab) (f := f) (w := wr) (g := w.heap.size) (by rw [← HPC.out]; exact D0)
          obtain ⟨l0, l1, l2⟩ := Blk.field (pre := [.int .u32 (X : Int), .int .u32 lab]) (f := f) (g := w.heap.size) (w := wr) (by have := D0; rw [HPC.out] at this; exact this) 2 k rfl hkf
          have hg : f.getD k zv = f[k] := by simp [List.getD, hkf]
          obtain ⟨⟨v0, v1, v2⟩, hv⟩ : ∃ v, v = f[k] := ⟨_, rfl⟩
          rw [← hv] at l0 l1 l2 hg
          simp only at l0 l1 l2
          have hki : (k : Int) < 8 := by omega
          have hk0 : (0 : Int) ≤ (k : Int) := by omega
          obtain ⟨bk, hbk⟩ : ∃ b, b = has x (k : Int) := ⟨_, rfl⟩
          rw [← hbk] at HH
          cases bk
          · have HK2 : Hid (lst x (k + 1) = lst x k) := Lib.hid (lst_skip x k hbk.symm)
            clear hbk hv hg hkf l0 l1 l2 p1 c0
            go_wp2_with fail
            refine (HH.out _).mono ?_
            rintro e w4 ⟨rfl, rfl⟩
            go_wp2_with fail
            go_roundw
            case rel => exact ⟨k + 1, by omega, by go_num, ⟨t, u, rfl, Lib.hid ⟨HT.out.1, by rw [HK2.out]; exact HT.out.2⟩, by omega⟩, D0, hbr⟩
            case measure => simp [intOf]; omega
          · have HK2 : Hid (fbs (lst x (k + 1)) f = fbs (lst x k) f ++ vbs (v0, v1, v2)) := Lib.hid (by rw [← hg]; exact fbs_lst_put x f k hbk.symm)
            have HPV := Lib.hid (fun wx : World => rputval_any v0 v1 v2 wx)
            obtain ⟨t2, ht2⟩ : ∃ t2, t2 = str (vbs (v0, v1, v2)) := ⟨_, rfl⟩
            rw [← ht2] at HPV
            have hz2 : t2.size ≤ 40 := by rw [ht2, str_size]; exact vbs_len _
            have HTT : Hid (t ++ t2 = s0 ++ (u ++ t2) ∧ u ++ t2 = str (fbs (lst x (k + 1)) f)) := Lib.hid ⟨by rw [HT.out.1, ByteArray.append_assoc], by rw [HK2.out, HT.out.2, ht2]; first | exact (str_append _ _).symm | exact str_append _ _⟩
            have hsz : (t ++ t2).size = t.size + t2.size := by simp
            have HSZ := Lib.hid hsz
            clear hbk hv hg hkf ht2 hsz p1 c0
            go_wp2_with fail
            refine (HH.out _).mono ?_
            rintro e w4 ⟨rfl, rfl⟩
            go_wp2_with fail
            refine (HPV.out _).mono ?_
            rintro e w4 ⟨rfl, hb4⟩
            have D2 := D0.later hb4
            have hbr2 := hbr.trans (hb4.mono hbr.size)
            clear D0 hb4 hbr l0 l1 l2
            go_wp2_with fail
            go_roundw
            case rel => exact ⟨k + 1, by omega, by go_num, ⟨t ++ t2, u ++ t2, rfl, HTT, by rw [HSZ.out]; omega⟩, D2, hbr2⟩
            case measure => simp [intOf]; omega
        · obtain rfl : k = 8 := by omega
          have HR8 := HRR.out u HT.out.2
          rw [← HT.out.1] at HR8
          subst HR8
          clear HRR HT
          go_wp2_with fail
          go_ret
          exact ⟨rfl, hbr⟩
  · have HB : Hid (str (pbs x lab f) = ⟨#[]⟩) := Lib.hid (by unfold pbs; rw [if_pos (by rw [← her]; exact h0)]; rfl)
    rw [HB.out]
    have be : (er != 0) = true := by simp [h0]
    clear HB her h0 hpc hf
    go_enter Try.func82, Try.ntmps82
    go_wp2_with (first
      | (refine wpList_load_mid rfl 61 (.tmp 1) rfl w.heap.size 0 rfl pc _ RG hu rfl (by rw [HPLen.out]; exact info_patch) ?_)
      | fail)
    refine (HCK.out _).mono ?_
    rintro e w1 ⟨rfl, hb1⟩
    have hbw := hb0.trans (hb1.mono hb0.size)
    clear RG hb1 hb0
    go_wp2_with fail
    go_ret
    exact ⟨rfl, hbw⟩
end Go.Proofs.Ytgpbglmlakildaa

/- Cards as bytes: whether the layer is awake; a slice of bytes as a string. -/
namespace Go.Proofs.Ytgpbglmlakildaa
set_option linter.unusedVariables false
open Go Go.RowKit BitM OctM

theorem str_conv (w : World) (B : Nat) (A : Option Addr) (n c : Nat) (l : List UInt8) (s : ByteArray) (hn : l.length = n) (hs : Sees w B A (bvs l)) (h : s = str l) : (convert 44 9 (.slice A n c)).run Try.prog w = .ok (.string s) w := by
  subst h
  exact run_str (P := Try.prog) w B 44 5 9 Try.underlying44 Try.underlying5 Try.underlying9 A n c l hn hs

section
variable {P : Program} {w : World} {a : Act} {op : Oper}
theorem exec_conv (x : Operand) (t u : TypeId) (ho : op.op = .convert t u x) (v : Value) (hx : a.eval x = v) (r : Value) (h : (convert t u v).run P w = .ok r w) : (execOp a.eval op).run P w = .ok (.value r) w := by
  unfold execOp
  simp only [ho, hx, Sem.run_bind, Sem.run_pure, Result.andThen_ok, h]
end

/-- The card that awake writes. -/
def awk : List V3 := zv :: (1, 7, ⟨#[]⟩) :: List.replicate 6 zv
theorem awk_bytes : cbs 1 2 1 awk = [1, 2, 1, 2, 1, 7] := by decide +kernel
theorem awk_cells : (ccells 1 2 1 zeros).take 6 ++ vcells (1, 7, ⟨#[]⟩) ++ (ccells 1 2 1 zeros).drop 9 = ccells 1 2 1 awk := rfl

end Go.Proofs.Ytgpbglmlakildaa

/- Filters as bytes: the chapter's example; the walk of PredwirePuts. -/
namespace Go.Proofs.Ytgpbglmlakildaa
set_option linter.unusedVariables false
set_option linter.unusedSimpArgs false
open Go Go.RowKit OctM

theorem exA_bytes : lbs exA = [2, 10, 3, 3] := by decide +kernel
set_option maxRecDepth 100000 in
set_option maxHeartbeats 1600000 in
theorem pw_awake (w : World) : Calls Try.prog 32 #[] w fun e w' => e = .returned (.bool true) ∧ Below w.heap.size w w' := by
  have S1 := sees_lit w #[.int .i64 10, .int .i64 0, .int .i64 0, .int .i64 0, .string ⟨#[]⟩, .int .i64 3, .int .i64 3, .int .i64 0, .int .i64 0, .string ⟨#[]⟩] 29 (0, 0) (ncs exA) rfl
  have b1 := (Below.refl w.heap.size w).alloc (Nat.le_refl _) (.cells #[.int .i64 10, .int .i64 0, .int .i64 0, .int .i64 0, .string ⟨#[]⟩, .int .i64 3, .int .i64 3, .int .i64 0, .int .i64 0, .string ⟨#[]⟩] 29)
  have HA := Lib.hid (fun wx (h : Sees wx wx.heap.size (some ⟨w.heap.size, 0, none⟩) (ncs exA)) => put_nodes none 0 0 [] (some ⟨w.heap.size, 0, none⟩) 2 2 exA wx rfl Sees.nil_ (by omega) rfl h)
  rw [List.nil_append, exA_bytes] at HA
  have HS := Lib.hid S1
  clear S1
  go_enter Try.func32, Try.ntmps32
  go_wp2_with fail
  refine (HA.out _ (HS.out.more (by simp))).mono ?_
  rintro e w8 ⟨A8, c8, rfl, o8, b8⟩
  have hr := str_conv w8 w8.heap.size A8 4 c8 _ ⟨#[2, 10, 3, 3]⟩ rfl o8.sees rfl
  have b9 := b1.trans (b8.mono b1.size)
  clear o8 b8 HA HS
  go_wp2_with (first
    | (refine wpList_exec (by rfl) (.string ⟨#[2, 10, 3, 3]⟩) (exec_conv (.tmp 4) 44 9 rfl _ rfl _ hr) ?_)
    | fail)
  go_ret
  exact ⟨rfl, b9⟩

set_option maxRecDepth 100000 in
set_option maxHeartbeats 6400000 in
theorem walk_pwputs (A : Option Addr) (n c : Nat) (l : List Nd) (AB : Option Addr) (nb cb : Nat) (lb : List UInt8) (w : World) (hn : l.length = n) (hs : Sees w w.heap.size A (ncs l)) (hc : n ≤ c) (hnb : lb.length = nb) (hsb : Sees w w.heap.size AB (bvs lb)) :
    Calls Try.prog 6 #[.slice A n c, .slice AB nb cb] w fun e w' => e = .returned (.bool true) ∧ Below w.heap.size w w' := by
  have HAW := Lib.hid (fun wx : World => pw_awake wx)
  have HLA := Lib.hid (nlarge_any A n c l w w.heap.size hn hs)
  cases hbig : lbig l with
  | true =>
    rw [hbig] at HLA
    clear hbig hs hn hsb hnb
    go_enter Try.func6, Try.ntmps6
    go_wp2_with fail
    refine HLA.out.mono ?_
    rintro e w1 ⟨rfl, rfl⟩
    go_wp2_with fail
    refine (HAW.out _).mono ?_
    rintro e w1 ⟨rfl, hb1⟩
    go_wp2_with fail
    go_ret
    exact ⟨rfl, hb1⟩
  | false =>
    rw [hbig] at HLA
    by_cases h5 : nb ≤ 500
    · have d5 : decide ((500 : Int) < (nb : Int)) = false := by simp; omega
      obtain ⟨lp, hlp⟩ : ∃ z, z = lb ++ lbs l := ⟨_, rfl⟩
      obtain ⟨kp, hkp⟩ : ∃ z, z = lp.length := ⟨_, rfl⟩
      obtain ⟨ss, hss⟩ : ∃ z, z = str lb := ⟨_, rfl⟩
      obtain ⟨rp, hrp⟩ : ∃ z, z = str (lbs l) := ⟨_, rfl⟩
      obtain ⟨sp, hsp⟩ : ∃ z, z = str lp := ⟨_, rfl⟩
      have addp : ss ++ rp = sp := by rw [hss, hrp, str_append, hsp, hlp]
      have zs : ss.size = nb := by rw [hss, str_size, hnb]
      have zp : rp.size ≤ 1618 := by rw [hrp, str_size]; exact lbs_len l
      have KP : Hid (lp.length = kp) := Lib.hid hkp.symm
      have CP : Hid (∀ (wx : World) (A' : Option Addr) (c' : Nat) (h : Sees wx wx.heap.size A' (bvs lp)), (convert 44 9 (.slice A' kp c')).run Try.prog wx = .ok (.string sp) wx) := Lib.hid (fun wx A' c' h => str_conv wx wx.heap.size A' kp c' lp sp hkp.symm h hsp)
      have HP : Hid (∀ wx : World, Le w wx → Calls Try.prog 33 #[.slice AB nb cb, .slice A n c] wx (GivesBytes wx lp)) := Lib.hid (fun wx hb => by rw [hlp]; exact put_nodes AB nb cb lb A n c l wx hnb ((hsb.below hb).more hb.size) (by omega) hn ((hs.below hb).more hb.size))
      have RP : Hid (∀ wx : World, Le w wx → Calls Try.prog 34 #[.slice A n c] wx fun e w' => e = .returned (.string rp) ∧ Below wx.heap.size wx w') := Lib.hid (fun wx hb => by rw [hrp]; exact rput_nodes A n c l wx hn ((hs.below hb).more hb.size) hc)
      have HSS : Hid (∀ wx : World, Le w wx → (convert 44 9 (.slice AB nb cb)).run Try.prog wx = .ok (.string ss) wx) := Lib.hid (fun wx hb => str_conv wx w.heap.size AB nb cb lb ss hnb (hsb.below hb) hss)
      clear hrp hsp hlp hkp hss hs hn hnb hsb hbig
      go_enter Try.func6, Try.ntmps6
      go_wp2_with fail
      refine HLA.out.mono ?_
      rintro e w1 ⟨rfl, rfl⟩
      go_wp2_with fail
      refine wp_region_steady [(15, relSee kp lp)] 26 (by kernel_rfl) (by kernel_rfl) (by kernel_rfl) (by rfl) ?_
      iterate 2 (refine wpG_quiet (by rfl) (by rfl) (by rfl) (fun K hK => ?_); go_big_quiet_op; refine hK _ ?_; clear hK K)
      refine wpG_calls (relSee kp lp) (by rfl) (by rfl) 33 #[.slice AB nb cb, .slice A n c] (by intro _; simp [go_sem]) (fun w1 hl => (HP.out w1 hl.1).mono ?_) ?_
      · intro e w2 h
        exact gives_see KP.out h
      rintro _ ⟨_, _, _, ⟨A1, c1, rfl, _⟩⟩
      simp only [Act.put, List.setIfInBounds_toArray, List.set_cons_zero, List.set_cons_succ]
      refine wpG_run (by rfl) (by rfl) (.string sp) (fun w1 hl => ?_) ?_
      · obtain ⟨A2, c2, h2, s2⟩ := hl.2 15 _ (by simp [Op.operands]) rfl (by intro h; cases h)
        cases h2
        exact exec_conv (.tmp 15) 44 9 rfl _ rfl _ (CP.out w1 A1 c1 s2)
      simp only [Act.put, List.setIfInBounds_toArray, List.set_cons_zero, List.set_cons_succ]
      iterate 1 (refine wpG_quiet (by rfl) (by rfl) (by rfl) (fun K hK => ?_); go_big_quiet_op; refine hK _ ?_; clear hK K)
      refine wpG_run (by rfl) (by rfl) (.string ss) (fun w1 hl => exec_conv (.tmp 17) 44 9 rfl _ rfl _ (HSS.out w1 hl.1)) ?_
      simp only [Act.put, List.setIfInBounds_toArray, List.set_cons_zero, List.set_cons_succ]
      iterate 1 (refine wpG_quiet (by rfl) (by rfl) (by rfl) (fun K hK => ?_); go_big_quiet_op; refine hK _ ?_; clear hK K)
      refine wpG_call (by rfl) (by rfl) 34 #[.slice A n c] (.string rp) (by intro _; simp [go_sem]) (by kernel_rfl) (fun w1 hl => RP.out w1 hl.1) ?_
      simp only [Act.put, List.setIfInBounds_toArray, List.set_cons_zero, List.set_cons_succ]
      iterate 3 (refine wpG_quiet (by rfl) (by rfl) (by rfl) (fun K hK => ?_); go_big_quiet_op; refine hK _ ?_; clear hK K)
      refine wpG_call (by rfl) (by rfl) 32 #[] (.bool true) (by intro _; simp [go_sem]) (by kernel_rfl) (fun w1 hl => HAW.out w1) ?_
      simp only [Act.put, List.setIfInBounds_toArray, List.set_cons_zero, List.set_cons_succ]
      iterate 2 (refine wpG_quiet (by rfl) (by rfl) (by rfl) (fun K hK => ?_); go_big_quiet_op; refine hK _ ?_; clear hK K)
      refine wpG_nil fun w1 hl _ => ?_
      go_wp2_with fail
      go_ret
      exact ⟨rfl, hl⟩
    · have d5 : decide ((500 : Int) < (nb : Int)) = true := by simp; omega
      clear hs hn hsb hnb hbig
      go_enter Try.func6, Try.ntmps6
      go_wp2_with fail
      refine HLA.out.mono ?_
      rintro e w1 ⟨rfl, rfl⟩
      go_wp2_with fail
      refine (HAW.out _).mono ?_
      rintro e w1 ⟨rfl, hb1⟩
      go_wp2_with fail
      go_ret
      exact ⟨rfl, hb1⟩
end Go.Proofs.Ytgpbglmlakildaa

/- What the frame gives of a value, of fields, of a card, of a patch. -/
namespace Go.Proofs.Ytgpbglmlakildaa
set_option linter.unusedVariables false
open Go Go.RowKit BitM

section
variable {H : Type} {enc : TypeId × Value → H} {W : World}

theorem list3 {α : Type} {l : List α} {a b c : α} (hl : l.length = 3) (h0 : (l.drop 0).take 1 = [a]) (h1 : (l.drop 1).take 1 = [b]) (h2 : (l.drop 2).take 1 = [c]) : l = [a, b, c] := by
  match l, hl with
  | [x, y, z], _ => simp at h0 h1 h2; rw [h0, h1, h2]
/-- What a number, a text in an input is. -/
def okV (v : V3) : Prop := (-9223372036854775808 ≤ v.1 ∧ v.1 ≤ 9223372036854775807) ∧ (-9223372036854775808 ≤ v.2.1 ∧ v.2.1 ≤ 9223372036854775807) ∧ v.2.2.size ≤ maxLen
theorem trod_val {sp : Nat → Bool} {held : Bool} {n : Nat} {cs : List Value} {x : DataW H × List MemPlace} (h : DataW.trod enc Try.prog W 0 sp held n 27 cs = some x) : ∃ v : V3, cs = vcells v ∧ okV v := by
  obtain ⟨y0, y1, y2, m, _, hl, h0, h1, h2⟩ := Go.Deep.trod_struct3 Try.underlying27 h
  have c1 : Try.prog.cellsOf 3 = 1 := by kernel_rfl
  have c2 : Try.prog.cellsOf 9 = 1 := by kernel_rfl
  have c3 : Try.prog.cellsOf 27 = 3 := by kernel_rfl
  rw [c3] at hl
  simp only [c1] at h0 h1
  simp only [c2] at h2
  obtain ⟨a, e0, _, w0⟩ := DataW.trod_int Try.underlying3 h0
  obtain ⟨b, e1, _, w1⟩ := DataW.trod_int Try.underlying3 h1
  obtain ⟨s, e2, _, w2⟩ := DataW.trod_string Try.underlying9 h2
  exact ⟨(a, b, s), list3 hl e0 e1 e2, i64_wf w0, i64_wf w1, w2⟩
theorem cut3 : ∀ (l : List Value) (n : Nat), l.length = n * 3 → (∀ i, i < n → ∃ v : V3, (l.drop (i * 3)).take 3 = vcells v ∧ okV v) → ∃ f : List V3, l = fcells f ∧ f.length = n ∧ ∀ v ∈ f, okV v
  | l, 0, hl, _ => ⟨[], List.length_eq_zero_iff.1 (by rw [hl]), rfl, by simp⟩
  | l, n + 1, hl, h => by
    obtain ⟨v, hv, ok⟩ := h 0 (by omega)
    obtain ⟨f, hf, hn, hok⟩ := cut3 (l.drop 3) n (by rw [List.length_drop, hl]; omega) (fun i hi => by
      have := h (i + 1) (by omega)
      rw [List.drop_drop, show 3 + i * 3 = (i + 1) * 3 by omega]
      exact this)
    refine ⟨v :: f, ?_, by simp [hn], ?_⟩
    · rw [fcells_cons, ← hf, ← hv]
      simp
    · intro u hu
      rcases List.mem_cons.1 hu with rfl | hu
      · exact ok
      · exact hok u hu
theorem trod_fields {sp : Nat → Bool} {held : Bool} {n : Nat} {cs : List Value} {x : DataW H × List MemPlace} (h : DataW.trod enc Try.prog W 0 sp held n 59 cs = some x) : ∃ f : List V3, cs = fcells f ∧ f.length = 8 ∧ ∀ v ∈ f, okV v := by
  obtain ⟨xs, m, _, _, hl, hxl, heach⟩ := DataW.trod_array Try.underlying59 h
  have c3 : Try.prog.cellsOf 27 = 3 := by kernel_rfl
  have c8 : Try.prog.cellsOf 59 = 24 := by kernel_rfl
  rw [c8] at hl
  simp only [c3] at heach
  refine cut3 cs 8 hl fun i hi => ?_
  have h1 := heach i hi
  rw [List.getElem?_eq_getElem (by rw [hxl]; exact hi)] at h1
  exact trod_val h1
theorem list2 {α : Type} {l : List α} {a b : α} (hl : l.length = 2) (h0 : (l.drop 0).take 1 = [a]) (h1 : (l.drop 1).take 1 = [b]) : l = [a, b] := by
  match l, hl with
  | [x, y], _ => simp at h0 h1; rw [h0, h1]
set_option maxRecDepth 100000 in
theorem open_patch {r : Reach} {base : Nat} {v : Value} {d : DataW H} {ps : List MemPlace}
    (hv : Value.okWide Try.prog W r base 61 v) (h : DataW.Trod enc Try.prog W 0 (fun _ => true) true 61 v d ps) :
    ∃ (m lab : BitVec 32) (f : List V3), v = .agg (pcells (m.toNat : Int) (lab.toNat : Int) f).toArray ∧ f.length = 8 ∧ (∀ v ∈ f, okV v) := by
  simp only [Value.okWide, Try.underlying61] at hv
  obtain ⟨cs, rfl, hrest⟩ := hv
  obtain ⟨fuel, hf⟩ := h
  obtain ⟨y0, y1, y2, m, _, hl, h0, h1, h2⟩ := Go.Deep.trod_struct3 Try.underlying61 hf
  have c2 : Try.prog.cellsOf 58 = 1 := by kernel_rfl
  have c8 : Try.prog.cellsOf 59 = 24 := by kernel_rfl
  have c26 : Try.prog.cellsOf 61 = 26 := by kernel_rfl
  rw [c26] at hl
  simp only [c2, Value.cells] at h0 h1
  simp only [c8, Value.cells] at h2
  simp only [Value.cells] at hl
  obtain ⟨a, e0, _, w0⟩ := DataW.trod_int Try.underlying58 h0
  obtain ⟨b, e1, _, w1⟩ := DataW.trod_int Try.underlying58 h1
  obtain ⟨f, e3, hf8, hok⟩ := trod_fields h2
  obtain ⟨x, rfl⟩ := u32_wf w0
  obtain ⟨y, rfl⟩ := u32_wf w1
  refine ⟨x, y, f, ?_, hf8, hok⟩
  congr 1
  apply Array.toList_inj.1
  have e4 : cs.toList.take 2 = [.int .u32 (x.toNat : Int), .int .u32 (y.toNat : Int)] := list2 (by rw [List.length_take, hl]; rfl) (by simpa [List.take_take, List.drop_take] using e0) (by simpa [List.take_take, List.drop_take] using e1)
  rw [← List.take_append_drop 2 cs.toList, e4]
  unfold pcells
  rw [← e3, List.take_of_length_le (by rw [List.length_drop, hl]; omega)]
end
end Go.Proofs.Ytgpbglmlakildaa

/- What the frame gives of a list of nodes. -/
namespace Go.Proofs.Ytgpbglmlakildaa
set_option linter.unusedVariables false
open Go Go.RowKit Go.Deep Go.ChangeShapes Go.WideShapes Go.ChangeAt

def okNd (n : Nd) : Prop := (-9223372036854775808 ≤ n.1 ∧ n.1 ≤ 9223372036854775807) ∧ (-9223372036854775808 ≤ n.2.1 ∧ n.2.1 ≤ 9223372036854775807) ∧ okV n.2.2
section
variable {H : Type} {enc : TypeId × Value → H} {W : World}
set_option maxRecDepth 100000 in
theorem trod_node {sp : Nat → Bool} {held : Bool} {n : Nat} {cs : List Value} {x : DataW H × List MemPlace} (h : DataW.trod enc Try.prog W 0 sp held n 29 cs = some x) : ∃ v : Nd, cs = ncells v ∧ okNd v := by
  obtain ⟨y0, y1, y2, m, _, hl, h0, h1, h2⟩ := Go.Deep.trod_struct3 Try.underlying29 h
  have c1 : Try.prog.cellsOf 3 = 1 := by kernel_rfl
  have c3 : Try.prog.cellsOf 27 = 3 := by kernel_rfl
  have c5 : Try.prog.cellsOf 29 = 5 := by kernel_rfl
  rw [c5] at hl
  simp only [c1] at h0 h1
  simp only [c3] at h2
  obtain ⟨a, e0, _, w0⟩ := DataW.trod_int Try.underlying3 h0
  obtain ⟨b, e1, _, w1⟩ := DataW.trod_int Try.underlying3 h1
  obtain ⟨v, e2, ok⟩ := trod_val h2
  refine ⟨(a, b, v), ?_, i64_wf w0, i64_wf w1, ok⟩
  have e4 : cs.take 2 = [.int .i64 a, .int .i64 b] := list2 (by rw [List.length_take, hl]; rfl) (by simpa [List.take_take, List.drop_take] using e0) (by simpa [List.take_take, List.drop_take] using e1)
  have e5 : cs.drop 2 = vcells v := by rw [← e2, List.take_of_length_le (by rw [List.length_drop, hl]; omega)]
  rw [ncells_of, ← List.take_append_drop 2 cs, e4, e5]
set_option maxRecDepth 100000 in
theorem open_nodes {r : Reach} {base : Nat} {v : Value} {d : DataW H} {ps : List MemPlace}
    (hv : Value.okWide Try.prog W r base 22 v) (h : DataW.Trod enc Try.prog W 0 (fun _ => true) true 22 v d ps) :
    ∃ A n c, ∃ l : List Nd, v = .slice A n c ∧ n ≤ c ∧ c ≤ maxLen ∧ l.length = n ∧ (∀ z ∈ l, okNd z) ∧ Sees W W.heap.size A (ncs l) := by
  obtain ⟨A, n, c, rfl⟩ := okWide_slice Try.underlying22 hv
  obtain ⟨fuel, hf⟩ := h
  have hlt := DataW.trod_lt fuel _ _ _ hf
  have c5 : Try.prog.cellsOf 29 = 5 := by kernel_rfl
  rcases open_slice Try.underlying22 hf with ⟨hcs, hx⟩ | ⟨x, n, c, m, fu, D, Pl, hcs, hb, hl, hm, hmm, hx, hcell⟩
  · simp [Value.cells] at hcs
    obtain ⟨rfl, rfl, rfl⟩ := hcs
    exact ⟨none, 0, 0, [], rfl, Nat.le_refl _, by simp [maxLen], rfl, by simp, Sees.nil_⟩
  · simp [Value.cells] at hcs
    obtain ⟨rfl, rfl, rfl⟩ := hcs
    simp only [if_true] at hmm
    subst hmm
    have each : ∀ i, i < n → ∃ z : Nd, (∀ j u, (ncells z)[j]? = some u → W.cell? (x.add (i * 5 + j)) = some u) ∧ okNd z := fun i hi => by
      obtain ⟨cs', h1, h2⟩ := hcell i (by omega)
      obtain ⟨z, rfl, ok⟩ := trod_node h2
      refine ⟨z, fun j u hj => ?_, ok⟩
      rw [c5] at h1
      obtain ⟨_, hlen, hc⟩ := World.cells?_some h1
      have hj5 : j < 5 := by
        have := (List.getElem?_eq_some_iff.1 hj).1
        rwa [ncells_len] at this
      have e1 := hc j hj5
      rw [add_add] at e1
      rw [e1, hj]
    obtain ⟨f, hf2⟩ := choose_lt (α := Nd) each
    have hlen : ((List.range n).map f).length = n := by simp
    refine ⟨some x, n, m, (List.range n).map f, rfl, hl, hm, hlen, fun z hz => ?_, fun hpos => ?_⟩
    · obtain ⟨i, hi, rfl⟩ := List.mem_map.1 hz
      exact (hf2 i (List.mem_range.1 hi)).2
    · rw [ncs_len, hlen] at hpos
      have h0 := (hf2 0 (by omega)).1 0 _ rfl
      obtain ⟨b, off, spot⟩ := x
      have hspot : spot = none := by simpa [Addr.add] using World.cell?_spot h0
      subst hspot
      refine ⟨b, off, rfl, ?_, fun j hj => ?_⟩
      · simp only [Prod.mk.injEq] at hx
        obtain ⟨_, rfl⟩ := hx
        have := hlt (.cell b off) (by simp [MemPlace.row, c5]; omega)
        simpa [MemPlace.block] using this
      · have hj2 := hj
        rw [ncs_len, hlen] at hj2
        have hk : j / 5 < ((List.range n).map f).length := by rw [hlen]; omega
        have h3 : (ncells ((List.range n).map f)[j / 5])[j % 5]? = some (ncs ((List.range n).map f))[j] := by
          have h4 := ncs_get _ (j / 5) hk
          rw [← h4, List.getElem?_take, if_pos (by omega), List.getElem?_drop, show 5 * (j / 5) + j % 5 = j by omega, List.getElem?_eq_getElem hj]
        have h5 := (hf2 (j / 5) (by omega)).1 (j % 5) _ (by simpa using h3)
        rw [show j / 5 * 5 + j % 5 = j by omega, add_at] at h5
        exact h5
end
end Go.Proofs.Ytgpbglmlakildaa

/- What each frame of this seat asks once. -/
namespace Go.Proofs.Ytgpbglmlakildaa
theorem own : ownKnob Try.prog.godebug = none := by kernel_rfl
theorem laidOut : laidOutB Try.prog = true := by kernel_rfl
theorem boolT : Try.prog.underlying 4 = some .bool := Try.underlying4
end Go.Proofs.Ytgpbglmlakildaa

/- What taking a number off a text gives, as the document says it: mathematics alone. -/
namespace Go.Proofs.Ytgpbglmlakildaa.OctM
/-- The value of the first n bytes, seven bits each. -/
def val (l : List UInt8) : Nat → Nat
  | 0 => 0
  | n + 1 => val l n + (l.getD n 0).toNat % 128 * 128 ^ n
theorem scan_run (l : List UInt8) : ∀ n, n ≤ 6 → n ≤ l.length → (∀ j, j < n → 128 ≤ (l.getD j 0).toNat) → scan l 0 0 = scan (l.drop n) n (val l n)
  | 0, _, _, _ => rfl
  | n + 1, h6, hl, ha => by
    rw [scan_run l n (by omega) (by omega) (fun j hj => ha j (by omega))]
    have hd : l.drop n = l[n] :: l.drop (n + 1) := List.drop_eq_getElem_cons (by omega)
    have hg : l.getD n 0 = l[n] := by simp [List.getD, List.getElem?_eq_getElem (show n < l.length by omega)]
    have h1 := ha n (by omega)
    rw [hg] at h1
    rw [hd, scan, if_neg (by omega), if_neg (by omega), val, hg]
/-- What the document's next gives. -/
def nextOut (l : List UInt8) (most : Int) : Nat × Nat × Nat :=
  if (scan l 0 0).2.2 ≠ 0 then (0, 0, (scan l 0 0).2.2)
  else if 1099511627776 < ((scan l 0 0).1 : Int) ∨ most < ((scan l 0 0).1 : Int) then (0, 0, 4)
  else scan l 0 0
theorem next_six (l : List UInt8) (most : Int) (hl : 6 ≤ l.length) (ha : ∀ j, j < 6 → 128 ≤ (l.getD j 0).toNat) : nextOut l most = (0, 0, 3) := by
  have h := scan_run l 6 (Nat.le_refl _) hl ha
  have h2 : scan (l.drop 6) 6 (val l 6) = (0, 0, 3) := by
    cases l.drop 6 with
    | nil => simp [scan]
    | cons c r => simp [scan]
  unfold nextOut
  rw [h, h2]; simp
theorem next_short (l : List UInt8) (most : Int) (hl : l.length < 6) (ha : ∀ j, j < l.length → 128 ≤ (l.getD j 0).toNat) : nextOut l most = (0, 0, 2) := by
  have h := scan_run l l.length (by omega) (Nat.le_refl _) ha
  rw [List.drop_length] at h
  have h2 : scan ([] : List UInt8) l.length (val l l.length) = (0, 0, 2) := by simp [scan]; omega
  unfold nextOut
  rw [h, h2]; simp
theorem next_low (l : List UInt8) (n : Nat) (h6 : n < 6) (hl : n < l.length) (ha : ∀ j, j < n → 128 ≤ (l.getD j 0).toNat) (hn : (l.getD n 0).toNat < 128) :
    scan l 0 0 = if (l.getD n 0).toNat = 0 ∧ 0 < n then (0, 0, 3) else (val l (n + 1), n + 1, 0) := by
  rw [scan_run l n (by omega) (by omega) ha]
  have hd : l.drop n = l[n] :: l.drop (n + 1) := List.drop_eq_getElem_cons hl
  have hg : l.getD n 0 = l[n] := by simp [List.getD, List.getElem?_eq_getElem hl]
  rw [hg] at hn ⊢
  rw [hd, scan, if_neg (by omega), if_pos hn, val, hg]
end Go.Proofs.Ytgpbglmlakildaa.OctM

/- The document's next: what it returns. -/
namespace Go.Proofs.Ytgpbglmlakildaa
set_option linter.unusedVariables false
open Go.RowKit OctM

theorem getD_str (l : List UInt8) (k : Nat) (h : k < (str l).size) : (str l)[k] = l.getD k 0 := by
  rw [str_get]
  have : k < l.length := by rw [← str_size]; exact h
  simp [List.getD, List.getElem?_eq_getElem this]

set_option maxRecDepth 8000 in
set_option maxHeartbeats 1600000 in
theorem ref_next (l : List UInt8) (most : Int) (w : World) (hm : l.length ≤ 2097152) :
    Calls Try.prog 98 #[.string (str l), .int .i64 most] w fun e w' =>
      e = .returned (.tuple #[.int .i64 ((nextOut l most).1 : Nat), .int .i64 ((nextOut l most).2.1 : Nat), .int .i64 ((nextOut l most).2.2 : Nat)]) ∧ w = w' := by
  have hsz := str_size l
  go_enter Try.func98, Try.ntmps98
  go_wp2_with fail
  go_loop [7] (fun i => ∃ k : Nat, k ≤ 6 ∧ k ≤ l.length ∧ i = .int .i64 k ∧ (∀ j, j < k → 128 ≤ (l.getD j 0).toNat)) (fun i => 6 - (intOf i).toNat)
  case atStart => exact ⟨0, Nat.zero_le _, Nat.zero_le _, rfl, fun j h => absurd h (Nat.not_lt_zero j)⟩
  case round =>
    obtain ⟨k, hk6, hkl, rfl, ha⟩ := hrel
    have HA := Lib.hid ha
    clear ha
    by_cases h6 : k < 6
    · have d6 : decide ((k : Int) < 6) = true := by simp; omega
      by_cases hl : k < l.length
      · have dl : decide ((k : Int) < (l.length : Int)) = true := by simp; omega
        have hks : k < (str l).size := by rw [hsz]; exact hl
        by_cases hx : 128 ≤ (l.getD k 0).toNat
        · have dx : decide ((128 : Int) ≤ ((str l)[k].toNat : Int)) = true := by rw [getD_str]; exact decide_eq_true (by omega)
          have HX := Lib.hid hx
          clear hx
          go_wp2_with fail
          go_round
          case rel => exact ⟨k + 1, by omega, by omega, by go_num, fun j hj => by
            by_cases e : j = k
            · rw [e]; exact HX.out
            · exact HA.out j (by omega)⟩
          case measure => simp [intOf]; try omega
        · have dx : decide ((128 : Int) ≤ ((str l)[k].toNat : Int)) = false := by rw [getD_str]; exact decide_eq_false (by omega)
          have hlow := next_low l k h6 hl HA.out (by omega)
          have hk7 : k < 7 := by omega
          by_cases hz : (l.getD k 0).toNat = 0 ∧ 0 < k
          · have HR := Lib.hid (show nextOut l most = (0, 0, 3) from by unfold nextOut; rw [hlow, if_pos hz]; simp)
            have dz : (((str l)[k].toNat : Int) == 0) = true := by rw [getD_str, hz.1]; rfl
            have dk : decide ((0 : Int) < (k : Int)) = true := by simp; omega
            have dk' : decide (0 < k) = true := by simp; omega
            have he6 : ((k : Int) == 6) = false := by simp; omega
            have hel : ((k : Int) == (l.length : Int)) = false := by simp; omega
            have HX := Lib.hid hx
            have HZ := Lib.hid hz
            clear hx hz hlow
            go_wp2_with fail
            go_ret3
            exact ⟨by rw [HR.out]; rfl, rfl⟩
          · have HNO := Lib.hid (show nextOut l most = if 1099511627776 < (val l (k + 1) : Int) ∨ most < (val l (k + 1) : Int) then (0, 0, 4) else (val l (k + 1), k + 1, 0) from by unfold nextOut; rw [hlow, if_neg hz]; simp)
            have he6 : ((k : Int) == 6) = false := by simp; omega
            have hel : ((k : Int) == (l.length : Int)) = false := by simp; omega
            have hk5 : k ≤ 5 := by omega
            by_cases hk0 : 0 < k
            · have dk : decide ((0 : Int) < (k : Int)) = true := by simp; omega
              have dk' : decide (0 < k) = true := by simp; omega
              have dz : (((str l)[k].toNat : Int) == 0) = false := by
                rw [getD_str]
                have : (l.getD k 0).toNat ≠ 0 := fun h => hz ⟨h, hk0⟩
                rw [beq_eq_false_iff_ne]; omega
              have HX := Lib.hid hx
              have HZ := Lib.hid hz
              clear hx hz hlow
              go_wp2_with fail
              go_loop [8, 9] (fun v i => ∃ r u : Nat, r ≤ k + 1 ∧ v = .int .i64 u ∧ i = .int .i64 ((r : Int) - 1) ∧ val l (k + 1) = val l r + u * 128 ^ r ∧ u < 128 ^ (k + 1 - r)) (fun _ i => ((intOf i) + 1).toNat)
              case atStart => exact ⟨k + 1, 0, Nat.le_refl _, rfl, by simp, by simp, by simp⟩
              case round =>
                obtain ⟨r, u, hrk, rfl, rfl, hv, hu⟩ := hrel
                have HV := Lib.hid hv
                have HU := Lib.hid hu
                clear hv
                by_cases hr0 : r = 0
                · subst hr0
                  have HW := Lib.hid (show val l (k + 1) = u from by rw [HV.out]; simp [val])
                  have HNO2 := Lib.hid (show nextOut l most = if 1099511627776 < (u : Int) ∨ most < (u : Int) then (0, 0, 4) else (u, k + 1, 0) from by rw [HNO.out, HW.out])
                  clear hu
                  by_cases hb : 1099511627776 < (u : Int)
                  · have HR := Lib.hid (show nextOut l most = (0, 0, 4) from by rw [HNO2.out, if_pos (.inl hb)])
                    have db : decide ((1099511627776 : Int) < (u : Int)) = true := decide_eq_true hb
                    clear hb
                    go_wp2_with fail
                    go_ret3
                    exact ⟨by rw [HR.out]; rfl, rfl⟩
                  · have db : decide ((1099511627776 : Int) < (u : Int)) = false := decide_eq_false hb
                    by_cases hb2 : most < (u : Int)
                    · have HR := Lib.hid (show nextOut l most = (0, 0, 4) from by rw [HNO2.out, if_pos (.inr hb2)])
                      have db2 : decide (most < (u : Int)) = true := decide_eq_true hb2
                      clear hb hb2
                      go_wp2_with fail
                      go_ret3
                      exact ⟨by rw [HR.out]; rfl, rfl⟩
                    · have HR := Lib.hid (show nextOut l most = (u, k + 1, 0) from by rw [HNO2.out, if_neg (by omega)])
                      have db2 : decide (most < (u : Int)) = false := decide_eq_false hb2
                      clear hb hb2
                      go_wp2_with fail
                      go_ret3
                      exact ⟨by rw [HR.out]; rfl, rfl⟩
                · obtain ⟨q, rfl⟩ : ∃ q, r = q + 1 := ⟨r - 1, by omega⟩
                  have hub : u < 34359738368 := Nat.lt_of_lt_of_le hu (Nat.le_trans (Nat.pow_le_pow_right (by omega) (show k + 1 - (q + 1) ≤ 5 by omega)) (by decide))
                  have hqs : q < (str l).size := by rw [hsz]; omega
                  have dq : decide ((0 : Int) ≤ ((q + 1 : Nat) : Int) - 1) = true := by simp; try omega
                  have hqe : ((q + 1 : Nat) : Int) - 1 = (q : Int) := by omega
                  rw [hqe]
                  have hxq := (str l)[q].toNat_lt
                  have HQ := Lib.hid (getD_str l q hqs)
                  clear hu hr0
                  go_wp2_with fail
                  go_round
                  case rel =>
                    refine ⟨q, u * 128 + (l.getD q 0).toNat % 128, by omega, by rw [← HQ.out]; go_num, by go_num, ?_, ?_⟩
                    · rw [HV.out, val, Nat.pow_succ, Nat.add_mul]; 
                      have : u * (128 ^ q * 128) = u * 128 * 128 ^ q := by rw [Nat.mul_comm (128 ^ q), Nat.mul_assoc]
                      omega
                    · have e : k + 1 - q = (k + 1 - (q + 1)) + 1 := by omega
                      have := HU.out
                      rw [e, Nat.pow_succ]
                      omega
                  case measure => simp [intOf]
            · have dk : decide ((0 : Int) < (k : Int)) = false := by simp; omega
              have dk' : decide (0 < k) = false := by simp; omega
              have HX := Lib.hid hx
              have HZ := Lib.hid hz
              clear hx hz hlow
              go_wp2_with fail
              go_loop [8, 9] (fun v i => ∃ r u : Nat, r ≤ k + 1 ∧ v = .int .i64 u ∧ i = .int .i64 ((r : Int) - 1) ∧ val l (k + 1) = val l r + u * 128 ^ r ∧ u < 128 ^ (k + 1 - r)) (fun _ i => ((intOf i) + 1).toNat)
              case atStart => exact ⟨k + 1, 0, Nat.le_refl _, rfl, by simp, by simp, by simp⟩
              case round =>
                obtain ⟨r, u, hrk, rfl, rfl, hv, hu⟩ := hrel
                have HV := Lib.hid hv
                have HU := Lib.hid hu
                clear hv
                by_cases hr0 : r = 0
                · subst hr0
                  have HW := Lib.hid (show val l (k + 1) = u from by rw [HV.out]; simp [val])
                  have HNO2 := Lib.hid (show nextOut l most = if 1099511627776 < (u : Int) ∨ most < (u : Int) then (0, 0, 4) else (u, k + 1, 0) from by rw [HNO.out, HW.out])
                  clear hu
                  by_cases hb : 1099511627776 < (u : Int)
                  · have HR := Lib.hid (show nextOut l most = (0, 0, 4) from by rw [HNO2.out, if_pos (.inl hb)])
                    have db : decide ((1099511627776 : Int) < (u : Int)) = true := decide_eq_true hb
                    clear hb
                    go_wp2_with fail
                    go_ret3
                    exact ⟨by rw [HR.out]; rfl, rfl⟩
                  · have db : decide ((1099511627776 : Int) < (u : Int)) = false := decide_eq_false hb
                    by_cases hb2 : most < (u : Int)
                    · have HR := Lib.hid (show nextOut l most = (0, 0, 4) from by rw [HNO2.out, if_pos (.inr hb2)])
                      have db2 : decide (most < (u : Int)) = true := decide_eq_true hb2
                      clear hb hb2
                      go_wp2_with fail
                      go_ret3
                      exact ⟨by rw [HR.out]; rfl, rfl⟩
                    · have HR := Lib.hid (show nextOut l most = (u, k + 1, 0) from by rw [HNO2.out, if_neg (by omega)])
                      have db2 : decide (most < (u : Int)) = false := decide_eq_false hb2
                      clear hb hb2
                      go_wp2_with fail
                      go_ret3
                      exact ⟨by rw [HR.out]; rfl, rfl⟩
                · obtain ⟨q, rfl⟩ : ∃ q, r = q + 1 := ⟨r - 1, by omega⟩
                  have hub : u < 34359738368 := Nat.lt_of_lt_of_le hu (Nat.le_trans (Nat.pow_le_pow_right (by omega) (show k + 1 - (q + 1) ≤ 5 by omega)) (by decide))
                  have hqs : q < (str l).size := by rw [hsz]; omega
                  have dq : decide ((0 : Int) ≤ ((q + 1 : Nat) : Int) - 1) = true := by simp; try omega
                  have hqe : ((q + 1 : Nat) : Int) - 1 = (q : Int) := by omega
                  rw [hqe]
                  have hxq := (str l)[q].toNat_lt
                  have HQ := Lib.hid (getD_str l q hqs)
                  clear hu hr0
                  go_wp2_with fail
                  go_round
                  case rel =>
                    refine ⟨q, u * 128 + (l.getD q 0).toNat % 128, by omega, by rw [← HQ.out]; go_num, by go_num, ?_, ?_⟩
                    · rw [HV.out, val, Nat.pow_succ, Nat.add_mul]; 
                      have : u * (128 ^ q * 128) = u * 128 * 128 ^ q := by rw [Nat.mul_comm (128 ^ q), Nat.mul_assoc]
                      omega
                    · have e : k + 1 - q = (k + 1 - (q + 1)) + 1 := by omega
                      have := HU.out
                      rw [e, Nat.pow_succ]
                      omega
                  case measure => simp [intOf]
      · have HR := Lib.hid (next_short l most (by omega) (fun j hj => HA.out j (by omega)))
        obtain rfl : k = l.length := by omega
        have he6 : ((l.length : Int) == 6) = false := by simp; omega
        go_wp2_with fail
        go_ret3
        exact ⟨by rw [HR.out]; rfl, rfl⟩
    · obtain rfl : k = 6 := by omega
      have HR := Lib.hid (next_six l most hkl HA.out)
      go_wp2_with fail
      go_ret3
      exact ⟨by rw [HR.out]; rfl, rfl⟩
end Go.Proofs.Ytgpbglmlakildaa

/- octet's Reader: what each method returns, and what it leaves. -/
namespace Go.Proofs.Ytgpbglmlakildaa
set_option linter.unusedVariables false
open Go.RowKit OctM

/-- A reader at block g: its bytes lie below g; how many are taken; its error. -/
def Rd (w : World) (base g : Nat) (l : List UInt8) (at_ : Nat) (err : Int) : Prop :=
  ∃ A c, l.length ≤ c ∧ c ≤ maxLen ∧ Own w base 93 (.slice (some ⟨g, 0, none⟩) 3 3) [.slice A l.length c, .int .i64 at_, .int .i64 err] ∧ Sees w g A (bvs l)
theorem Rd.block {w : World} {base g : Nat} {l : List UInt8} {at_ : Nat} {err : Int} (h : Rd w base g l at_ err) : base ≤ g ∧ g < w.heap.size := by
  obtain ⟨A, c, h1, h2, h3, h4⟩ := h
  exact h3.lt g rfl

set_option maxHeartbeats 800000 in
theorem rd_new (A : Option Addr) (n c : Nat) (l : List UInt8) (w : World) (hn : l.length = n) (hs : Sees w w.heap.size A (bvs l)) (hm : n ≤ 1048576) :
    Calls Try.prog 35 #[.slice A n c] w fun e w' => ∃ g, e = .returned (.pointer (some ⟨g, 0, none⟩)) ∧ Rd w' w.heap.size g l 0 0 ∧ Below w.heap.size w w' := by
  have HF := Lib.hid (oct_fresh A n c l 0 w hn hs hm (by omega))
  have HN := Lib.hid hn
  clear hn hs
  go_enter Try.func35, Try.ntmps35
  go_wp2_with fail
  refine HF.out.mono ?_
  rintro e w1 ⟨A1, c1, rfl, o1, b1⟩
  have s1 := o1.sees
  have k1 := o1.cap
  go_wp2_with fail
  go_ret
  refine ⟨w1.heap.size, rfl, ⟨A1, c1, by rw [HN.out]; exact k1.1, k1.2, ?_, s1.alloc (Nat.le_refl _) _⟩, b1.alloc b1.size _⟩
  have h := own_lit w1 w.heap.size 93 #[.slice A1 n c1, .int .i64 0, .int .i64 0] b1.size (by simp [maxLen])
  rw [HN.out]
  exact h

theorem rd_ready (base g : Nat) (l : List UInt8) (at_ : Nat) (err : Int) (w : World) (h : Rd w base g l at_ err) :
    Calls Try.prog 95 #[.pointer (some ⟨g, 0, none⟩)] w fun e w' => e = .returned (.bool (err == 0)) ∧ w = w' := by
  obtain ⟨A, c, hlc, hcm, ho, hs⟩ := h
  have h2 := ho.cell 2 (by simp)
  simp only [List.getElem_cons_succ, List.getElem_cons_zero] at h2
  clear ho hs
  go_enter Try.func95, Try.ntmps95
  go_wp2_with fail
  go_ret
  exact ⟨rfl, rfl⟩
theorem rd_err (base g : Nat) (l : List UInt8) (at_ : Nat) (err : Int) (w : World) (h : Rd w base g l at_ err) :
    Calls Try.prog 38 #[.pointer (some ⟨g, 0, none⟩)] w fun e w' => e = .returned (.int .i64 err) ∧ w = w' := by
  obtain ⟨A, c, hlc, hcm, ho, hs⟩ := h
  have h2 := ho.cell 2 (by simp)
  simp only [List.getElem_cons_succ, List.getElem_cons_zero] at h2
  clear ho hs
  go_enter Try.func38, Try.ntmps38
  go_wp2_with fail
  go_ret
  exact ⟨rfl, rfl⟩
theorem rd_left (base g : Nat) (l : List UInt8) (at_ : Nat) (err : Int) (w : World) (h : Rd w base g l at_ err) (ha : at_ ≤ l.length) (hm : l.length ≤ 2097152) :
    Calls Try.prog 39 #[.pointer (some ⟨g, 0, none⟩)] w fun e w' => e = .returned (.int .i64 ((l.length : Int) - at_)) ∧ (∃ k, w' = w.drewN k) := by
  obtain ⟨A, c, hlc, hcm, ho, hs⟩ := h
  have h0 := ho.cell 0 (by simp)
  have h1 := ho.cell 1 (by simp)
  simp only [List.getElem_cons_succ, List.getElem_cons_zero] at h0 h1
  clear ho hs
  go_enter Try.func39, Try.ntmps39
  go_wp2_with fail
  go_quiet (fail)
  go_wp2
  go_ret
  exact ⟨rfl, _, rfl⟩

theorem drewN_grown (w : World) (k : Nat) (row : Option Nat) : w.grownBy (w.drewN k) row := ⟨rfl, rfl, rfl, Nat.le_refl _, fun _ _ _ => rfl⟩
theorem Rd.drewN {w : World} {base g : Nat} {l : List UInt8} {at_ : Nat} {err : Int} (h : Rd w base g l at_ err) (k : Nat) : Rd (w.drewN k) base g l at_ err := by
  obtain ⟨A, c, h1, h2, h3, h4⟩ := h
  exact ⟨A, c, h1, h2, h3.drewN k, h4.drewN k⟩
theorem Rd.put_err {w : World} {base g : Nat} {l : List UInt8} {at_ : Nat} {err : Int} (h : Rd w base g l at_ err) (e : Int) :
    Rd (w.setCell ⟨g, 2, none⟩ (.int .i64 e)) base g l at_ e ∧ w.grownBy (w.setCell ⟨g, 2, none⟩ (.int .i64 e)) (some g) := by
  obtain ⟨A, c, h1, h2, h3, h4⟩ := h
  have h5 := World.ownsRow.stored (h3 : w.ownsRow _ _ _ _ _ _) 2 (.int .i64 e)
  exact ⟨⟨A, c, h1, h2, h5.1, h4.setCell (Nat.le_refl _) _⟩, h5.2⟩
theorem Rd.put_at {w : World} {base g : Nat} {l : List UInt8} {at_ : Nat} {err : Int} (h : Rd w base g l at_ err) (n : Nat) :
    Rd (w.setCell ⟨g, 1, none⟩ (.int .i64 n)) base g l n err ∧ w.grownBy (w.setCell ⟨g, 1, none⟩ (.int .i64 n)) (some g) := by
  obtain ⟨A, c, h1, h2, h3, h4⟩ := h
  have h5 := World.ownsRow.stored (h3 : w.ownsRow _ _ _ _ _ _) 1 (.int .i64 n)
  exact ⟨⟨A, c, h1, h2, h5.1, h4.setCell (Nat.le_refl _) _⟩, h5.2⟩

/-- What taking a number gives: the number, how many bytes are taken then, the error then. -/
def numOut (l : List UInt8) (at_ : Nat) (err most : Int) : Nat × Nat × Int :=
  if err ≠ 0 then (0, at_, err)
  else if (scan (l.drop at_) 0 0).2.2 ≠ 0 then (0, at_, ((scan (l.drop at_) 0 0).2.2 : Nat))
  else if 1099511627776 < ((scan (l.drop at_) 0 0).1 : Int) ∨ most < ((scan (l.drop at_) 0 0).1 : Int) then (0, at_, 4)
  else ((scan (l.drop at_) 0 0).1, at_ + (scan (l.drop at_) 0 0).2.1, 0)
theorem scan_size : ∀ (l : List UInt8) (i v : Nat), (scan l i v).2.1 ≤ i + l.length
  | [], i, v => by unfold scan; split <;> simp
  | c :: l, i, v => by
    unfold scan
    have := scan_size l (i + 1) (v + c.toNat % 128 * 128 ^ i)
    split
    · simp
    · split
      · split <;> simp
      · simp; omega

set_option maxHeartbeats 1600000 in
theorem rd_num (base g : Nat) (l : List UInt8) (at_ : Nat) (err most : Int) (w : World) (h : Rd w base g l at_ err) (ha : at_ ≤ l.length) (hm : l.length ≤ 2097152) :
    Calls Try.prog 69 #[.pointer (some ⟨g, 0, none⟩), .int .i64 most] w fun e w' =>
      e = .returned (.int .i64 ((numOut l at_ err most).1 : Nat)) ∧ Rd w' base g l (numOut l at_ err most).2.1 (numOut l at_ err most).2.2 ∧ w.grownBy w' (some g) := by
  obtain ⟨i0, hi, hz0, hz1, hz2⟩ := oct_parts
  have HRD := Lib.hid h
  have HRY := Lib.hid (rd_ready base g l at_ err w h)
  obtain ⟨A, c, hlc, hcm, ho, hs⟩ := h
  have h0 := ho.cell 0 (by simp)
  have h1 := ho.cell 1 (by simp)
  have h2 := ho.cell 2 (by simp)
  have f1 := ho.frozen 1
  have f2 := ho.frozen 2
  simp only [List.getElem_cons_succ, List.getElem_cons_zero] at h0 h1 h2
  clear ho
  by_cases he : err = 0
  · subst he
    obtain ⟨A2, hcut, hs2⟩ := cut_fact (P := Try.prog) 44 5 i0 Try.underlying44 hi hz1 hs l.length (l.length - at_) at_ c (at_ : Int) .i64 (bvs_length l) (by omega) rfl hlc
    rw [show (bvs l).drop at_ = bvs (l.drop at_) from by simp [bvs]] at hs2
    have HL := Lib.hid (show (l.drop at_).length = l.length - at_ from by simp)
    obtain ⟨q, hq⟩ : ∃ q, q = l.length - at_ := ⟨_, rfl⟩
    rw [← hq] at hcut HL
    have hql : q + at_ = l.length := by omega
    clear hq
    obtain ⟨cc, hcc⟩ : ∃ cc, cc = c - at_ := ⟨_, rfl⟩
    rw [← hcc] at hcut
    clear hcc
    obtain ⟨v, hv⟩ : ∃ v, v = (scan (l.drop at_) 0 0).1 := ⟨_, rfl⟩
    obtain ⟨sz, hsz⟩ : ∃ sz, sz = (scan (l.drop at_) 0 0).2.1 := ⟨_, rfl⟩
    obtain ⟨er, her⟩ : ∃ er, er = (scan (l.drop at_) 0 0).2.2 := ⟨_, rfl⟩
    have hszl : sz ≤ q := by
      have := scan_size (l.drop at_) 0 0
      rw [← hsz, HL.out] at this
      omega
    have HF := Lib.hid (fun k : Nat => (oct_first A2 q cc (l.drop at_) (w.drewN k) g HL.out (hs2.drewN k) (by omega)).mono (fun _ _ h => (⟨h.1, h.2.symm⟩ : _ ∧ _)))
    rw [← hv, ← hsz, ← her] at HF
    have HV := Lib.hid hv
    have HSZ := Lib.hid hsz
    have HER := Lib.hid her
    clear hv hsz her hs hs2
    by_cases h3 : er = 0
    · have d3 : ((er : Int) == 0) = true := by simp; omega
      have d3n : ((er : Int) != 0) = false := by simp; omega
      have HE3 := Lib.hid h3
      by_cases h4 : 1099511627776 < (v : Int)
      · have HO := Lib.hid (show numOut l at_ 0 most = (0, at_, 4) from by
          unfold numOut
          rw [if_neg (by simp), if_neg (by rw [← HER.out]; simpa using h3), if_pos (by rw [← HV.out]; exact .inl h4)])
        have d4 : decide ((1099511627776 : Int) < (v : Int)) = true := by simpa using h4
        clear h3 h4
        go_enter Try.func69, Try.ntmps69
        go_wp2_with fail
        refine HRY.out.mono ?_
        rintro e wx ⟨rfl, rfl⟩
        rw [show ((0 : Int) == 0) = true from rfl]
        go_wp2_with fail
        go_quiet (first | (go_at_call 96; refine Calls.quiet_of_same (HF.out _)))
        go_wp2_with fail
        go_ret
        rw [HO.out]
        exact ⟨rfl, ((HRD.out.drewN _).put_err 4).1, (drewN_grown _ _ _).trans ((HRD.out.drewN _).put_err 4).2⟩
      · have d4 : decide ((1099511627776 : Int) < (v : Int)) = false := by simp; omega
        by_cases h5 : most < (v : Int)
        · have HO := Lib.hid (show numOut l at_ 0 most = (0, at_, 4) from by
            unfold numOut
            rw [if_neg (by simp), if_neg (by rw [← HER.out]; simpa using h3), if_pos (by rw [← HV.out]; exact .inr h5)])
          have d5 : decide (most < (v : Int)) = true := by simpa using h5
          clear h3 h4 h5
          go_enter Try.func69, Try.ntmps69
          go_wp2_with fail
          refine HRY.out.mono ?_
          rintro e wx ⟨rfl, rfl⟩
          rw [show ((0 : Int) == 0) = true from rfl]
          go_wp2_with fail
          go_quiet (first | (go_at_call 96; refine Calls.quiet_of_same (HF.out _)))
          go_wp2_with fail
          go_ret
          rw [HO.out]
          exact ⟨rfl, ((HRD.out.drewN _).put_err 4).1, (drewN_grown _ _ _).trans ((HRD.out.drewN _).put_err 4).2⟩
        · have HO := Lib.hid (show numOut l at_ 0 most = (v, at_ + sz, 0) from by
            unfold numOut
            rw [if_neg (by simp), if_neg (by rw [← HER.out]; simpa using h3), if_neg (by rw [← HV.out]; omega), ← HV.out, ← HSZ.out])
          have d5 : decide (most < (v : Int)) = false := by simp; omega
          clear h4 h5
          subst h3
          clear d3 d3n
          go_enter Try.func69, Try.ntmps69
          go_wp2_with fail
          refine HRY.out.mono ?_
          rintro e wx ⟨rfl, rfl⟩
          rw [show ((0 : Int) == 0) = true from rfl]
          go_wp2_with fail
          go_quiet (first | (go_at_call 96; refine Calls.quiet_of_same (HF.out _)))
          go_wp2_with fail
          go_ret
          rw [HO.out]
          exact ⟨rfl, ((HRD.out.drewN _).put_at (at_ + sz)).1, (drewN_grown _ _ _).trans ((HRD.out.drewN _).put_at (at_ + sz)).2⟩
    · have HO := Lib.hid (show numOut l at_ 0 most = (0, at_, (er : Int)) from by
        unfold numOut
        rw [if_neg (by simp), if_pos (by rw [← HER.out]; exact h3), ← HER.out])
      have d3 : ((er : Int) == 0) = false := by simp; omega
      have d3n : ((er : Int) != 0) = true := by simp; omega
      have HE3 := Lib.hid h3
      clear h3
      go_enter Try.func69, Try.ntmps69
      go_wp2_with fail
      refine HRY.out.mono ?_
      rintro e wx ⟨rfl, rfl⟩
      rw [show ((0 : Int) == 0) = true from rfl]
      go_wp2_with fail
      go_quiet (first | (go_at_call 96; refine Calls.quiet_of_same (HF.out _)))
      go_wp2_with fail
      go_ret
      rw [HO.out]
      exact ⟨rfl, ((HRD.out.drewN _).put_err er).1, (drewN_grown _ _ _).trans ((HRD.out.drewN _).put_err er).2⟩
  · have hd : (err == 0) = false := by simpa using he
    have HO := Lib.hid (show numOut l at_ err most = (0, at_, err) from by unfold numOut; rw [if_pos he])
    clear he h0 h1 h2 f1 f2 hs
    go_enter Try.func69, Try.ntmps69
    go_wp2_with fail
    refine HRY.out.mono ?_
    rintro e wx ⟨rfl, rfl⟩
    rw [hd]
    go_wp2
    go_ret
    rw [HO.out]
    exact ⟨rfl, HRD.out, World.grownBy.refl w _⟩
end Go.Proofs.Ytgpbglmlakildaa

/- octet's Reader: texts and truths. -/
namespace Go.Proofs.Ytgpbglmlakildaa
set_option linter.unusedVariables false
open Go.RowKit OctM

/-- s[k:k+m]: what the cut is, under one name. -/
theorem cut2_fact {P : Program} (t e : TypeId) (i : TypeInfo) (ht : P.underlying t = some (.slice e)) (hi : P.info? e = some i) (hsz : i.size = 1) {w : World} {B : Nat} {A : Option Addr} {xs : List Value} (h : Sees w B A xs)
    (n k m c : Nat) (K H : Int) (kl kh : IntKind) (hn : xs.length = n) (hkm : k + m ≤ n) (hK : K = (k : Int)) (hH : H = ((k + m : Nat) : Int)) (hc : n ≤ c) :
    ∃ A2, (∀ wx, (Instr.slice t (.slice A n c) (some (.int kl K)) (some (.int kh H)) none).run P wx = .ok (.slice A2 m (c - k)) wx) ∧ Sees w B A2 ((xs.drop k).take m) := by
  refine ⟨if c = k then A else A.map (·.add k), fun wx => ?_, (h.cut (by omega)).take m⟩
  have he : P.elem t = e := by simp [Program.elem, ht]
  have ht' : P.underlying t = some (.slice (P.elem t)) := by rw [he]; exact ht
  rw [run_slice_lh wx t A n c ht' kl kh K H (by omega) (by omega) (by omega), he]
  simp [sizeOf, typeInfo, hi, hsz, sliced, hK, hH]
  try omega

/-- What a reader's block holds. -/
theorem Rd.facts {w : World} {base g : Nat} {l : List UInt8} {at_ : Nat} {err : Int} (h : Rd w base g l at_ err) :
    ∃ A c, l.length ≤ c ∧ c ≤ maxLen ∧ w.cell? ⟨g, 0, none⟩ = some (.slice A l.length c) ∧ w.cell? ⟨g, 1, none⟩ = some (.int .i64 at_) ∧ w.cell? ⟨g, 2, none⟩ = some (.int .i64 err) ∧
      w.frozen? ⟨g, 1, none⟩ = false ∧ w.frozen? ⟨g, 2, none⟩ = false ∧ Sees w g A (bvs l) := by
  obtain ⟨A, c, hlc, hcm, ho, hs⟩ := h
  have h0 := ho.cell 0 (by simp)
  have h1 := ho.cell 1 (by simp)
  have h2 := ho.cell 2 (by simp)
  simp only [List.getElem_cons_succ, List.getElem_cons_zero] at h0 h1 h2
  exact ⟨A, c, hlc, hcm, h0, h1, h2, ho.frozen 1, ho.frozen 2, hs⟩

theorem numOut_at (l : List UInt8) (at_ : Nat) (err most : Int) (ha : at_ ≤ l.length) : (numOut l at_ err most).2.1 ≤ l.length := by
  have := scan_size (l.drop at_) 0 0
  rw [List.length_drop] at this
  unfold numOut
  split
  · exact ha
  · split
    · exact ha
    · split
      · exact ha
      · simp; omega

/-- What taking a truth gives. -/
def flagOut (l : List UInt8) (at_ : Nat) (err : Int) : Bool × Nat × Int :=
  if err ≠ 0 then (false, at_, err)
  else if 1 < (numOut l at_ 0 1099511627776).1 then (false, at_, 3)
  else (decide ((numOut l at_ 0 1099511627776).1 = 1), (numOut l at_ 0 1099511627776).2)

end Go.Proofs.Ytgpbglmlakildaa

/- octet's Reader: a text. -/
namespace Go.Proofs.Ytgpbglmlakildaa
set_option linter.unusedVariables false
open Go.RowKit OctM

/-- What taking a text gives. -/
def strOut (l : List UInt8) (at_ : Nat) (err most : Int) : List UInt8 × Nat × Int :=
  if err ≠ 0 then ([], at_, err)
  else if (numOut l at_ 0 most).2.2 ≠ 0 then ([], (numOut l at_ 0 most).2)
  else if l.length < (numOut l at_ 0 most).2.1 + (numOut l at_ 0 most).1 then ([], at_, 2)
  else ((l.drop (numOut l at_ 0 most).2.1).take (numOut l at_ 0 most).1, (numOut l at_ 0 most).2.1 + (numOut l at_ 0 most).1, 0)

set_option maxHeartbeats 1600000 in
theorem rd_str (base g : Nat) (l : List UInt8) (at_ : Nat) (err most : Int) (w : World) (h : Rd w base g l at_ err) (ha : at_ ≤ l.length) (hm : l.length ≤ 2097152) :
    Calls Try.prog 115 #[.pointer (some ⟨g, 0, none⟩), .int .i64 most] w fun e w' =>
      e = .returned (.string (str (strOut l at_ err most).1)) ∧ Rd w' base g l (strOut l at_ err most).2.1 (strOut l at_ err most).2.2 ∧ w.grownBy w' (some g) := by
  obtain ⟨i0, hi, hz0, hz1, hz2⟩ := oct_parts
  have HRD := Lib.hid h
  have HRY := Lib.hid (rd_ready base g l at_ err w h)
  by_cases he : err = 0
  · subst he
    have HNUM := Lib.hid (rd_num base g l at_ 0 most w h ha hm)
    have hna := numOut_at l at_ 0 most ha
    obtain ⟨A, c, hlc, hcm, h0, h1, h2, f1, f2, hs⟩ := h.facts
    clear h hs hlc hcm
    obtain ⟨o, ho⟩ : ∃ o, o = numOut l at_ 0 most := ⟨_, rfl⟩
    have HFO := Lib.hid (show strOut l at_ 0 most = if o.2.2 ≠ 0 then ([], o.2) else if l.length < o.2.1 + o.1 then ([], at_, 2) else ((l.drop o.2.1).take o.1, o.2.1 + o.1, 0) from by unfold strOut; rw [if_neg (by simp), ← ho])
    rw [← ho] at HNUM hna
    clear ho
    obtain ⟨v, a1, e1⟩ := o
    simp only at HFO HNUM hna
    by_cases h3 : e1 = 0
    · subst h3
      by_cases h4 : l.length < a1 + v
      · have HO := Lib.hid (show strOut l at_ 0 most = ([], at_, 2) from by rw [HFO.out, if_neg (by simp), if_pos h4])
        have d4 : decide ((l.length : Int) - (a1 : Int) < (v : Int)) = true := by simp; omega
        clear h4
        go_enter Try.func115, Try.ntmps115
        go_wp2_with fail
        refine HRY.out.mono ?_
        rintro e wx ⟨rfl, rfl⟩
        rw [show ((0 : Int) == 0) = true from rfl]
        go_wp2_with fail
        refine HNUM.out.mono ?_
        rintro e w1 ⟨rfl, rd1, g1⟩
        clear h0 h1 h2 f1 f2
        obtain ⟨A, c, hlc, hcm, h0, h1, h2, f1, f2, hs⟩ := rd1.facts
        have HR1 := Lib.hid rd1
        clear rd1 hs hlc hcm
        go_wp2_with fail
        refine (rd_left base g l a1 0 w1 HR1.out hna hm).mono ?_
        rintro e w2 ⟨rfl, nk, rfl⟩
        go_wp2_with fail
        go_ret
        rw [HO.out]
        exact ⟨rfl, (((HR1.out.drewN nk).put_at at_).1.put_err 2).1, ((g1.trans (drewN_grown _ _ _)).trans ((HR1.out.drewN nk).put_at at_).2).trans (((HR1.out.drewN nk).put_at at_).1.put_err 2).2⟩
      · have HO := Lib.hid (show strOut l at_ 0 most = ((l.drop a1).take v, a1 + v, 0) from by rw [HFO.out, if_neg (by simp), if_neg h4])
        have d4 : decide ((l.length : Int) - (a1 : Int) < (v : Int)) = false := by simp; omega
        have hav : a1 + v ≤ l.length := by omega
        clear h4
        go_enter Try.func115, Try.ntmps115
        go_wp2_with fail
        refine HRY.out.mono ?_
        rintro e wx ⟨rfl, rfl⟩
        rw [show ((0 : Int) == 0) = true from rfl]
        go_wp2_with fail
        refine HNUM.out.mono ?_
        rintro e w1 ⟨rfl, rd1, g1⟩
        clear h0 h1 h2 f1 f2
        obtain ⟨A, c, hlc, hcm, h0, h1, h2, f1, f2, hs⟩ := rd1.facts
        have HR1 := Lib.hid rd1
        clear rd1
        obtain ⟨A2, hcut, hs2⟩ := cut2_fact (P := Try.prog) 44 5 i0 Try.underlying44 hi hz1 hs l.length a1 v c (a1 : Int) ((a1 : Int) + (v : Int)) .i64 .i64 (bvs_length l) hav rfl (by simp) hlc
        rw [show ((bvs l).drop a1).take v = bvs ((l.drop a1).take v) from by simp [bvs]] at hs2
        have HL := Lib.hid (show ((l.drop a1).take v).length = v from by rw [List.length_take, List.length_drop]; omega)
        obtain ⟨cc, hcc⟩ : ∃ cc, cc = c - a1 := ⟨_, rfl⟩
        rw [← hcc] at hcut
        have hstr := fun k : Nat => run_str (P := Try.prog) (w1.drewN k) g 44 5 9 Try.underlying44 Try.underlying5 Try.underlying9 A2 v cc ((l.drop a1).take v) HL.out (hs2.drewN k)
        obtain ⟨t, ht⟩ : ∃ t, t = str ((l.drop a1).take v) := ⟨_, rfl⟩
        rw [← ht] at hstr
        have HT := Lib.hid ht
        clear hcc hs hs2 hlc hcm ht
        go_wp2_with fail
        refine (rd_left base g l a1 0 w1 HR1.out hna hm).mono ?_
        rintro e w2 ⟨rfl, nk, rfl⟩
        go_wp2_with fail
        go_quiet (fail)
        go_wp2_with fail
        go_ret
        rw [HO.out, ← HT.out]
        exact ⟨rfl, ((HR1.out.drewN _).put_at (a1 + v)).1, (g1.trans (drewN_grown _ _ _)).trans ((HR1.out.drewN _).put_at (a1 + v)).2⟩
    · have HO := Lib.hid (show strOut l at_ 0 most = ([], a1, e1) from by rw [HFO.out, if_pos h3])
      have d4 : (e1 == 0) = false := by simpa using h3
      have d5 : (e1 != 0) = true := by simpa using h3
      clear h3
      go_enter Try.func115, Try.ntmps115
      go_wp2_with fail
      refine HRY.out.mono ?_
      rintro e wx ⟨rfl, rfl⟩
      rw [show ((0 : Int) == 0) = true from rfl]
      go_wp2_with fail
      refine HNUM.out.mono ?_
      rintro e w1 ⟨rfl, rd1, g1⟩
      clear h0 h1 h2 f1 f2
      obtain ⟨A, c, hlc, hcm, h0, h1, h2, f1, f2, hs⟩ := rd1.facts
      have HR1 := Lib.hid rd1
      clear rd1 hs hlc hcm
      go_wp2_with fail
      go_ret
      rw [HO.out]
      exact ⟨rfl, HR1.out, g1⟩
  · have hd : (err == 0) = false := by simpa using he
    have HO := Lib.hid (show strOut l at_ err most = ([], at_, err) from by unfold strOut; rw [if_pos he])
    clear he h
    go_enter Try.func115, Try.ntmps115
    go_wp2_with fail
    refine HRY.out.mono ?_
    rintro e wx ⟨rfl, rfl⟩
    rw [hd]
    go_wp2
    go_ret
    rw [HO.out]
    exact ⟨rfl, HRD.out, World.grownBy.refl w _⟩
end Go.Proofs.Ytgpbglmlakildaa

/- octet's Reader: Fail, End; and of no reader. -/
namespace Go.Proofs.Ytgpbglmlakildaa
set_option linter.unusedVariables false
open Go.RowKit OctM

/-- The error once another one is noted. -/
def failOut (err e : Int) : Int := if err = 0 then e else err
theorem rd_fail (base g : Nat) (l : List UInt8) (at_ : Nat) (err e0 : Int) (w : World) (h : Rd w base g l at_ err) :
    Calls Try.prog 70 #[.pointer (some ⟨g, 0, none⟩), .int .i64 e0] w fun e w' => e = .returned (.tuple #[]) ∧ Rd w' base g l at_ (failOut err e0) ∧ w.grownBy w' (some g) := by
  have HRD := Lib.hid h
  have HRY := Lib.hid (rd_ready base g l at_ err w h)
  obtain ⟨A, c, hlc, hcm, h0, h1, h2, f1, f2, hs⟩ := h.facts
  clear h hs hlc hcm
  by_cases he : err = 0
  · have hd : (err == 0) = true := by simpa using he
    have HO := Lib.hid (show failOut err e0 = e0 from if_pos he)
    clear he
    go_enter Try.func70, Try.ntmps70
    go_wp2_with fail
    refine HRY.out.mono ?_
    rintro e wx ⟨rfl, rfl⟩
    rw [hd]
    go_wp2_with fail
    go_returns
    rw [HO.out]
    exact ⟨rfl, (HRD.out.put_err e0).1, (HRD.out.put_err e0).2⟩
  · have hd : (err == 0) = false := by simpa using he
    have HO := Lib.hid (show failOut err e0 = err from if_neg he)
    clear he
    go_enter Try.func70, Try.ntmps70
    go_wp2_with fail
    refine HRY.out.mono ?_
    rintro e wx ⟨rfl, rfl⟩
    rw [hd]
    go_wp2_with fail
    go_returns
    rw [HO.out]
    exact ⟨rfl, HRD.out, World.grownBy.refl w _⟩

/-- The first error, or that bytes are left. -/
def endOut (n at_ : Nat) (err : Int) : Int := if err ≠ 0 then err else if at_ < n then 3 else 0
end Go.Proofs.Ytgpbglmlakildaa
