/- Disks: all that waits is done: Sync; the power goes, and comes again: Crash: what they return. -/
import Derived.Test.YtjnfdhjnfginpaaDkE
import Derived.Test.YtjnfdhjnfginpaaRws
namespace Go.Proofs.Ytjnfdhjnfginpaa
set_option linter.unusedVariables false
set_option linter.unusedSimpArgs false
open Go Go.RowKit

theorem Turn3.widen {w w' : World} {g b : Nat} {r : Option Nat} (h : Turn3 w w' b b none) : Turn3 w w' g b r := ⟨h.os, h.tape, h.output, h.size, fun k hk _ hb _ => h.block k hk hb hb (by simp)⟩
theorem Turn3.cell {w w' : World} {b k j : Nat} (h : Turn3 w w' b b none) (hk : k < w.heap.size) (hb : k ≠ b) : w'.cell? ⟨k, j, none⟩ = w.cell? ⟨k, j, none⟩ := World.cell?_of_block (h.block k hk hb hb (by simp))
theorem wc_len (l : List Wr) : ∀ x ∈ l, (wcell x).length = 65 := fun x _ => wcell_len x
theorem dall_take (s : List Sc) (l : List Wr) (k : Nat) (hk : k < l.length) : dall s (l.take (k + 1)) = dsettle (dall s (l.take k)) l[k] 1 := by
  rw [List.take_succ_eq_append_getElem hk, dall_snoc]
theorem dkeep_take (keep : List Int) (s : List Sc) (l : List Wr) (k : Nat) (hk : k < l.length) : dkeep keep 0 s (l.take (k + 1)) = dsettle (dkeep keep 0 s (l.take k)) l[k] (outc keep k) := by
  rw [List.take_succ_eq_append_getElem hk, dkeep_snoc, Nat.zero_add, List.length_take, Nat.min_eq_left (by omega)]
/-- A write that waits, where it lies. -/
theorem DkAt.wait {w : World} {L g b : Nat} {r : Option Nat} {D : Dk} {A : Option Addr} {c n : Nat} (h : DkAt w L g b r D) (hA : w.cell? ⟨g, 1, none⟩ = some (.slice A n c)) (hn : n = D.w.length) (k : Nat) (hk : k < D.w.length) :
    ∃ q, A = some ⟨q, 0, none⟩ ∧ r = some q ∧ w.rangeAt q (k * 65) (wcell D.w[k]) ∧ q < w.heap.size := by
  obtain ⟨A0, c0, _, k1, _, _, hr0, hre, _⟩ := h.cells
  rw [hA] at k1
  injection k1 with k1
  injection k1 with k1 k2 k3
  subst k1
  have hs := row_sees hr0
  obtain ⟨q, o, e, hb, hrg⟩ := sees_rw (f := wcell) (sz := 65) (wc_len _) hs (by decide) k hk
  obtain ⟨_, h0 | ⟨g', cap, cur, e1, _, _, _⟩⟩ := hr0
  · have := h0.2; omega
  · injection e1 with ea
    rw [ea] at e
    injection e with e
    injection e with e1 e2
    subst e1
    subst e2
    rw [Nat.zero_add] at hrg
    exact ⟨g', ea, by rw [hre, ea]; rfl, hrg, hb⟩

set_option maxRecDepth 100000 in
set_option maxHeartbeats 6400000 in
theorem sync_any (L g b : Nat) (r : Option Nat) (D : Dk) (w : World) (h : DkAt w L g b r D) (hin : DIn D) (hf : -9223372036854775808 ≤ D.fuse ∧ D.fuse ≤ 9223372036854775807) (hw : D.w.length ≤ 65536) (hL : L ≤ w.heap.size) :
    Calls Try.prog 13 #[.pointer (some ⟨g, 0, none⟩)] w fun e w' => e = .returned (.int .i64 (dsync D).2) ∧ ∃ r', DkAt w' L g b r' (dsync D).1 ∧ Turn3 w w' g b r ∧ RowN w r r' := by
  have hu := Try.underlying59
  have HRD := Lib.hid (ready_any L g b r D w h)
  cases hd : D.dead with
  | true =>
    have HR : Hid (dsync D = (D, 15)) := Lib.hid (by unfold dsync; rw [hd]; rfl)
    rw [hd] at HRD
    have HH := Lib.hid h
    clear h hd hin hf
    go_enter Try.func13, Try.ntmps13
    go_wp2_with fail
    refine HRD.out.mono ?_
    rintro e w1 ⟨rfl, rfl⟩
    go_wp2_with fail
    go_ret
    exact ⟨by rw [HR.out]; rfl, r, by rw [HR.out]; exact HH.out, Turn3.refl _ _ _ _, RowN.refl _ _⟩
  | false =>
    rw [hd] at HRD
    have HST := Lib.hid (step_any L g b r D w h hf)
    obtain ⟨D1, hD1⟩ : ∃ D1, D1 = (dstep D).1 := ⟨_, rfl⟩
    obtain ⟨e1, he1⟩ : ∃ e1, e1 = (dstep D).2 := ⟨_, rfl⟩
    rw [← hD1, ← he1] at HST
    have HD1 : Hid (D1.s = D.s ∧ D1.w = D.w ∧ DIn D1) := Lib.hid (by rw [hD1]; exact ⟨(dstep_s D).1, (dstep_s D).2, hin.step⟩)
    by_cases h0 : e1 = 0
    · have HR : Hid (dsync D = ({ D1 with s := dall D1.s D1.w, w := [] }, 0)) := Lib.hid (by unfold dsync; rw [hd, ← he1, if_neg (by simp), if_pos h0, ← hD1, HD1.out.1, HD1.out.2.1])
      subst h0
      have hgl := h.lt
      have hLw := Lib.hid hL
      clear h hd hin hf he1 hD1
      go_enter Try.func13, Try.ntmps13
      go_wp2_with fail
      refine HRD.out.mono ?_
      rintro e w1 ⟨rfl, rfl⟩
      go_wp2_with fail
      refine HST.out.mono ?_
      rintro e w1 ⟨rfl, H1, T1⟩
      obtain ⟨A, c, k0, k1, k2, k3, hrow, hre, hz⟩ := H1.cells
      obtain ⟨n, hn⟩ : ∃ n, n = D1.w.length := ⟨_, rfl⟩
      rw [← hn] at k1
      have hn16 : n ≤ 65536 := by rw [hn, HD1.out.2.1]; exact hw
      have HN := Lib.hid hn
      have H1 := Lib.hid H1
      have T1 := Lib.hid T1
      have hg1 := H1.out.lt
      have HK1 := Lib.hid k1
      clear hrow hre hz k0 k2 k3 hn hw hL
      go_wp2_with fail
      go_loopw [22] (fun i wr => ∃ k : Nat, k ≤ n ∧ i = .int .i64 (k : Int) ∧ Hid (DkAt wr L g b r { D1 with s := dall D1.s (D1.w.take k) }) ∧ Hid (Turn3 w1 wr b b none)) (fun i _ => n - (intOf i).toNat)
      case atStart => exact ⟨0, by omega, rfl, Lib.hid H1.out, Lib.hid (Turn3.refl _ _ _ _)⟩
      case round =>
        obtain ⟨k, hk, rfl, HA, HT⟩ := hrel
        have hgb := HA.out.gb
        have k1' : wr.cell? ⟨g, 1, none⟩ = some (.slice A n c) := (HT.out.cell hg1.1 hgb).trans HK1.out
        by_cases hlt : k < n
        · have d1 : decide ((k : Int) < (n : Int)) = true := decide_eq_true (by omega)
          have hkl : k < D1.w.length := by rw [← HN.out]; exact hlt
          obtain ⟨q, eA, hrq, hrg, hql⟩ := DkAt.wait HA.out k1' HN.out k hkl
          subst eA
          have HDA := Lib.hid (dall_take D1.s D1.w k hkl)
          have HIN : Hid (dhas { D1 with s := dall D1.s (D1.w.take k) } D1.w[k].1 = true) := Lib.hid (by
            have := HD1.out.2.2 _ (List.getElem_mem hkl)
            unfold dhas at *
            rw [show ({ D1 with s := dall D1.s (D1.w.take k) } : Dk).s.length = D1.s.length from dall_len _ _]
            exact this)
          obtain ⟨x, hx⟩ : ∃ x, x = D1.w[k] := ⟨_, rfl⟩
          have hrg : wr.rangeAt q (k * 65) (wcell x) := by rw [hx]; exact hrg
          rw [← hx] at HDA HIN
          have ONE := all_oneCell_toArray (wcell_one x)
          obtain ⟨xc, hxc⟩ : ∃ xc, xc = wcell x := ⟨_, rfl⟩
          obtain ⟨zc, hzc⟩ : ∃ zc, zc = wcell (0, z64) := ⟨_, rfl⟩
          have HZA : Hid (∀ wx : World, (Instr.alloc 59 true (.tuple #[])).run Try.prog wx = .ok (.pointer (some ⟨wx.heap.size, 0, none⟩)) (wx.alloc (.cells zc.toArray 59))) := Lib.hid (fun wx => by rw [hzc]; exact zero_wr wx)
          have HXL : Hid (xc.length = 65) := Lib.hid (by rw [hxc, wcell_len])
          have HXZ : xc.length = zc.length := by rw [hxc, hzc, wcell_len, wcell_len]
          rw [← hxc] at hrg ONE
          have HXC := Lib.hid hxc
          have IN1 : (Try.prog.info? 59).map (·.size) = some xc.toArray.size := by rw [(List.size_toArray).trans HXL.out]; exact info_wri
          have BN := Blk.new wr zc 59
          have TH : (wr.alloc (.cells zc.toArray 59)).there wr.heap.size 0 xc.toArray.size := by
            rw [show xc.toArray.size = zc.length from (List.size_toArray).trans HXZ]
            exact BN.there 0 _ (by omega)
          have B2 := BN.sets xc 0 (by omega)
          rw [show zc.take 0 ++ xc ++ zc.drop (0 + xc.length) = xc by rw [Nat.zero_add, List.drop_eq_nil_of_le (by omega)]; simp] at B2
          obtain ⟨W2, hW2⟩ : ∃ W2, W2 = (wr.alloc (.cells zc.toArray 59)).setCells wr.heap.size 0 xc := ⟨_, rfl⟩
          rw [← hW2] at B2
          have L2 : Below wr.heap.size wr W2 := by rw [hW2]; exact below_sets (Nat.le_refl _) xc 0 ((Below.refl wr.heap.size wr).alloc (Nat.le_refl _) _)
          have R2 := B2.range 0 xc (by rw [List.drop_zero, List.take_length])
          have HA2 := Lib.hid (HA.out.later L2)
          have HT2 := Lib.hid (HT.out.trans (Turn3.of_below L2 b b none) (RowN.refl _ _))
          have HW2 := Lib.hid hW2
          have HSE := Lib.hid (settle_any L g b r { D1 with s := dall D1.s (D1.w.take k) } x 1 W2 HA2.out HIN.out)
          rw [← hxc] at HSE
          clear hx hxc hzc HXZ BN B2 hW2 L2 hrq hql HIN HA
          go_wp2_with (first
            | (refine wpList_load_mid rfl 59 (.tmp 24) rfl q (k * 65) rfl xc _ hrg hu rfl (by rw [HXL.out]; exact info_wri) ?_)
            | (refine wpList_new rfl 59 rfl zc (HZA.out _) ?_)
            | (refine wpList_store_mid rfl 59 (.tmp 6) (.tmp 25) rfl wr.heap.size 0 xc.toArray rfl rfl TH IN1 ONE ?_
               simp only [Act.put]
               generalize hw6 : World.setCells _ wr.heap.size 0 xc.toArray.toList = w6
               have e6 : w6 = W2 := hw6.symm.trans HW2.out.symm
               subst e6
               clear hw6 TH hrg)
            | (refine wpList_load_mid rfl 59 (.tmp 6) rfl wr.heap.size 0 rfl xc _ R2 hu rfl (by rw [HXL.out]; exact info_wri) ?_)
            | fail)
          refine HSE.out.mono ?_
          rintro e w3 ⟨rfl, H3, T3⟩
          have H3 := Lib.hid H3
          have T3 := Lib.hid (HT2.out.trans T3 (RowN.refl _ _))
          clear R2 HSE HT2
          go_wp2_with fail
          go_roundw
          case rel => exact ⟨k + 1, by omega, by go_num, Lib.hid (by rw [HDA.out]; exact H3.out), T3⟩
          case measure => simp [intOf]; omega
        · obtain rfl : k = n := by omega
          have d1 : decide ((k : Int) < (k : Int)) = false := by simp
          have HTK : Hid (D1.w.take k = D1.w) := Lib.hid (List.take_of_length_le (by rw [← HN.out]; exact Nat.le_refl _))
          rw [HTK.out] at HA
          obtain ⟨A0, c0, B0, hr9, hre9⟩ := HA.out.at_
          have fz := B0.frozen 1
          clear hr9 hre9
          have HSN := Lib.hid (DkAt.setNone HA.out)
          have TT := Lib.hid ((T1.out.trans HT.out.widen (RowN.refl _ _)).trans (Turn3.set wr g b g 1 r (.slice none 0 0) (.inl rfl)) (RowN.refl _ _))
          clear B0
          go_wp2_with fail
          go_ret
          exact ⟨by rw [HR.out]; rfl, none, by rw [HR.out]; exact HSN.out, TT.out, RowN.none _ _⟩
    · have HR : Hid (dsync D = dstep D) := Lib.hid (by unfold dsync; rw [hd, ← he1, if_neg (by simp), if_neg h0])
      have n0 : (e1 != 0) = true := by rw [bne_iff_ne]; exact h0
      have HE : Hid (dstep D = (D1, e1)) := Lib.hid (by rw [hD1, he1])
      clear h hd hin hf he1 hD1 h0
      go_enter Try.func13, Try.ntmps13
      go_wp2_with fail
      refine HRD.out.mono ?_
      rintro e w1 ⟨rfl, rfl⟩
      go_wp2_with fail
      refine HST.out.mono ?_
      rintro e w1 ⟨rfl, H1, T1⟩
      have H1 := Lib.hid H1
      have T1 := Lib.hid T1
      go_wp2_with fail
      go_ret
      exact ⟨by rw [HR.out, HE.out]; rfl, r, by rw [HR.out, HE.out]; exact H1.out, T1.out, RowN.refl _ _⟩
end Go.Proofs.Ytjnfdhjnfginpaa
