/- Disks: a sector is read: Read: what it returns. -/
import Derived.Test.YtjnfdhjnfginpaaDkG
namespace Go.Proofs.Ytjnfdhjnfginpaa
set_option linter.unusedVariables false
set_option linter.unusedSimpArgs false
open Go Go.RowKit

/-- What lies at a place, of the writes up to the k-th. -/
def dlk (D : Dk) (a : Int) (k : Nat) : Sc := (D.w.take k).foldl (fun c x => if x.1 = a then (x.2, false) else c) (D.s.getD a.toNat (z64, false))
theorem dlk_zero (D : Dk) (a : Int) : dlk D a 0 = D.s.getD a.toNat (z64, false) := rfl
theorem dlk_succ (D : Dk) (a : Int) (k : Nat) (hk : k < D.w.length) : dlk D a (k + 1) = if D.w[k].1 = a then (D.w[k].2, false) else dlk D a k := by
  unfold dlk
  rw [List.take_succ_eq_append_getElem hk, List.foldl_append]
  rfl
theorem dlk_all (D : Dk) (a : Int) : dlk D a D.w.length = dlook D a := by unfold dlk dlook; rw [List.take_length]
theorem sc_len (l : List Sc) : ∀ x ∈ l, (scell x).length = 65 := fun x _ => scell_len x
theorem scell_64 (c : Sc) : (scell c)[64]? = some (.bool c.2) := by
  unfold scell
  rw [List.getElem?_append_right (by rw [bvs_length, c.1.2]; exact Nat.le_refl _), bvs_length, c.1.2]
  rfl
theorem scell_take (c : Sc) : (scell c).take 64 = bvs c.1.1 := by
  unfold scell
  rw [List.take_append_of_le_length (by rw [bvs_length, c.1.2]; exact Nat.le_refl _), List.take_of_length_le (by rw [bvs_length, c.1.2]; exact Nat.le_refl _)]

set_option maxRecDepth 100000 in
set_option maxHeartbeats 6400000 in
theorem read_any (L g b : Nat) (r : Option Nat) (D : Dk) (a : Int) (w : World) (h : DkAt w L g b r D) (hw : D.w.length ≤ 65536) :
    Calls Try.prog 16 #[.pointer (some ⟨g, 0, none⟩), .int .i64 a] w fun e w' => e = .returned (.tuple #[.string (str (dread D a).1), .int .i64 (dread D a).2]) ∧ Below w.heap.size w w' := by
  have hu := Try.underlying59
  have hu2 := Try.underlying63
  have hub := Try.underlying57
  have HRD := Lib.hid (ready_any L g b r D w h)
  have HHS := Lib.hid (has_any L g b r D a w h)
  cases hd : D.dead with
  | true =>
    have HR : Hid (dread D a = ([], 15)) := Lib.hid (by unfold dread; rw [hd]; rfl)
    rw [hd] at HRD
    clear h hd
    go_enter Try.func16, Try.ntmps16
    go_wp2_with fail
    refine HRD.out.mono ?_
    rintro e w1 ⟨rfl, rfl⟩
    go_wp2_with fail
    exact bodyPost_ret (results_tmp2 rfl _ _ _) rfl ⟨by rw [HR.out]; rfl, Below.refl _ _⟩
  | false =>
    rw [hd] at HRD
    cases hs : dhas D a with
    | false =>
      have HR : Hid (dread D a = ([], 1)) := Lib.hid (by unfold dread; rw [hd, hs]; rfl)
      rw [hs] at HHS
      clear h hd hs
      go_enter Try.func16, Try.ntmps16
      go_wp2_with fail
      refine HRD.out.mono ?_
      rintro e w1 ⟨rfl, rfl⟩
      go_wp2_with fail
      refine HHS.out.mono ?_
      rintro e w1 ⟨rfl, rfl⟩
      go_wp2_with fail
      exact bodyPost_ret (results_tmp2 rfl _ _ _) rfl ⟨by rw [HR.out]; rfl, Below.refl _ _⟩
    | true =>
      rw [hs] at HHS
      have HR : Hid (dread D a = if (dlook D a).2 then ([], 16) else ((dlook D a).1.1, 0)) := Lib.hid (by unfold dread; rw [hd, hs]; rfl)
      unfold dhas at hs
      rw [decide_eq_true_eq] at hs
      obtain ⟨k0, rfl⟩ : ∃ k : Nat, a = (k : Int) := ⟨a.toNat, by omega⟩
      have hk0 : k0 < D.s.length := by omega
      obtain ⟨A, c, c0, c1, c2, c3, hrow, hre, hfz⟩ := h.cells
      obtain ⟨n, hn⟩ : ∃ n, n = D.w.length := ⟨_, rfl⟩
      obtain ⟨m, hm⟩ : ∃ m, m = D.s.length := ⟨_, rfl⟩
      rw [← hn] at c1
      rw [← hm] at c0 hk0
      have hn16 : n ≤ 65536 := by rw [hn]; exact hw
      have HN := Lib.hid hn
      have HGL := h.lt
      have H0 := Lib.hid h
      have hsl := (scs_len D.s)
      have hks : k0 * 65 + 65 ≤ D.s.length * 65 := by rw [← hm]; have := Nat.mul_le_mul_right 65 (Nat.succ_le_of_lt hk0); omega
      have hget : ((scs D.s).drop (k0 * 65)).take (scell (D.s.getD k0 (z64, false))).length = scell (D.s.getD k0 (z64, false)) := by
        rw [scell_len, List.getD_eq_getElem?_getD, List.getElem?_eq_getElem (by rw [← hm]; exact hk0)]
        exact rws_get (f := scell) D.s (sc_len _) k0 (by rw [← hm]; exact hk0)
      have hrs := h.secs.range (k0 * 65) _ hget
      obtain ⟨sc, hsc⟩ : ∃ sc, sc = scell (D.s.getD k0 (z64, false)) := ⟨_, rfl⟩
      rw [← hsc] at hrs
      obtain ⟨zs, hzs⟩ : ∃ zs, zs = scell (z64, false) := ⟨_, rfl⟩
      have HZS : Hid (∀ wx : World, (Instr.alloc 63 true (.tuple #[])).run Try.prog wx = .ok (.pointer (some ⟨wx.heap.size, 0, none⟩)) (wx.alloc (.cells zs.toArray 63))) := Lib.hid (fun wx => by rw [hzs]; exact zero_sec wx)
      have HSL : Hid (sc.length = 65) := Lib.hid (by rw [hsc, scell_len])
      have hsz : sc.length = zs.length := by rw [hsc, hzs, scell_len, scell_len]
      have ONS : Hid ((sc.toArray.all (·.oneCell')) = true) := Lib.hid (by rw [hsc]; exact all_oneCell_toArray (scell_one _))
      have INS : (Try.prog.info? 63).map (·.size) = some sc.toArray.size := by rw [(List.size_toArray).trans HSL.out]; exact info_sec
      have BN := Blk.new w zs 63
      have THS : (w.alloc (.cells zs.toArray 63)).there w.heap.size 0 sc.toArray.size := by
        rw [show sc.toArray.size = zs.length from (List.size_toArray).trans hsz]
        exact BN.there 0 _ (by omega)
      have B1 := BN.sets sc 0 (by omega)
      rw [show zs.take 0 ++ sc ++ zs.drop (0 + sc.length) = sc by rw [Nat.zero_add, List.drop_eq_nil_of_le (by omega)]; simp] at B1
      obtain ⟨W1, hW1⟩ : ∃ W1, W1 = (w.alloc (.cells zs.toArray 63)).setCells w.heap.size 0 sc := ⟨_, rfl⟩
      rw [← hW1] at B1
      have L1 : Below w.heap.size w W1 := by rw [hW1]; exact below_sets (Nat.le_refl _) sc 0 ((Below.refl w.heap.size w).alloc (Nat.le_refl _) _)
      have HB1 : Hid (Blk W1 w.heap.size (scell (dlk D (k0 : Int) 0))) := Lib.hid (by rw [dlk_zero, Int.toNat_natCast, ← hsc]; exact B1)
      have HL1 := Lib.hid L1
      have HW1 := Lib.hid hW1
      have cw1 : W1.cell? ⟨g, 1, none⟩ = some (.slice A n c) := (L1.cell (p := ⟨g, 1, none⟩) HGL.1).trans c1
      clear h hd hs hrow hre hfz c2 c3 hw hsl hks hget hsc hzs hsz BN B1 hW1 L1 hn hm
      go_enter Try.func16, Try.ntmps16
      go_wp2_with fail
      refine HRD.out.mono ?_
      rintro e w1 ⟨rfl, rfl⟩
      go_wp2_with fail
      refine HHS.out.mono ?_
      rintro e w1 ⟨rfl, rfl⟩
      go_wp2_with (first
        | (refine wpList_load_mid rfl 63 (.tmp 24) rfl b (k0 * 65) rfl sc _ hrs hu2 rfl (by rw [HSL.out]; exact info_sec) ?_)
        | (refine wpList_new rfl 63 rfl zs (HZS.out _) ?_)
        | (refine wpList_store_mid rfl 63 (.tmp 7) (.tmp 25) rfl w.heap.size 0 sc.toArray rfl rfl THS INS ONS.out ?_
           simp only [Act.put]
           generalize hw6 : World.setCells _ w.heap.size 0 sc.toArray.toList = w6
           have e6 : w6 = W1 := hw6.symm.trans HW1.out.symm
           subst e6
           clear hw6 THS hrs)
        | fail)
      clear HSL ONS INS HW1
      go_loopw [31] (fun i wr => ∃ k : Nat, k ≤ n ∧ i = .int .i64 (k : Int) ∧ Hid (Blk wr w.heap.size (scell (dlk D (k0 : Int) k))) ∧ Hid (Below w.heap.size w wr)) (fun i _ => n - (intOf i).toNat)
      case atStart => exact ⟨0, by omega, rfl, HB1, HL1⟩
      case round =>
        obtain ⟨k, hk, rfl, HB, HL⟩ := hrel
        by_cases hlt : k < n
        · have d1 : decide ((k : Int) < (n : Int)) = true := decide_eq_true (by omega)
          have hkl : k < D.w.length := by rw [← HN.out]; exact hlt
          obtain ⟨q, eA, hrq, hrg, hql⟩ := DkAt.wait H0.out c1 HN.out k hkl
          subst eA
          have HDA := Lib.hid (dlk_succ D (k0 : Int) k hkl)
          obtain ⟨x, hx⟩ : ∃ x, x = D.w[k] := ⟨_, rfl⟩
          have hrg : wr.rangeAt q (k * 65) (wcell x) := by
            rw [hx]
            exact fun j v hj => (HL.out.cell (p := ⟨q, k * 65 + j, none⟩) hql).trans (hrg j v hj)
          rw [← hx] at HDA
          have ONE := all_oneCell_toArray (wcell_one x)
          obtain ⟨xc, hxc⟩ : ∃ xc, xc = wcell x := ⟨_, rfl⟩
          obtain ⟨zc, hzc⟩ : ∃ zc, zc = wcell (0, z64) := ⟨_, rfl⟩
          have HZA : Hid (∀ wx : World, (Instr.alloc 59 true (.tuple #[])).run Try.prog wx = .ok (.pointer (some ⟨wx.heap.size, 0, none⟩)) (wx.alloc (.cells zc.toArray 59))) := Lib.hid (fun wx => by rw [hzc]; exact zero_wr wx)
          have HXL : Hid (xc.length = 65) := Lib.hid (by rw [hxc, wcell_len])
          have HXZ : xc.length = zc.length := by rw [hxc, hzc, wcell_len, wcell_len]
          rw [← hxc] at hrg ONE
          have IN1 : (Try.prog.info? 59).map (·.size) = some xc.toArray.size := by rw [(List.size_toArray).trans HXL.out]; exact info_wri
          have BN := Blk.new wr zc 59
          have TH : (wr.alloc (.cells zc.toArray 59)).there wr.heap.size 0 xc.toArray.size := by
            rw [show xc.toArray.size = zc.length from (List.size_toArray).trans HXZ]
            exact BN.there 0 _ (by omega)
          have B2 := BN.sets xc 0 (by omega)
          rw [show zc.take 0 ++ xc ++ zc.drop (0 + xc.length) = xc by rw [Nat.zero_add, List.drop_eq_nil_of_le (by omega)]; simp] at B2
          obtain ⟨W2, hW2⟩ : ∃ W2, W2 = (wr.alloc (.cells zc.toArray 59)).setCells wr.heap.size 0 xc := ⟨_, rfl⟩
          rw [← hW2] at B2
          have L2 : Below wr.heap.size wr W2 := by rw [hW2]; exact below_sets (Nat.le_refl _) xc 0 ((Below.refl wr.heap.size wr).alloc (Nat.le_refl _) _)
          have HBW := Lib.hid (HB.out.later L2)
          have HLW := Lib.hid (HL.out.trans (L2.mono HL.out.size))
          have HW2 := Lib.hid hW2
          have w0 : W2.cell? ⟨wr.heap.size, 0, none⟩ = some (.int .i64 x.1) := B2.cell (j := 0) (by rw [hxc]; rfl)
          obtain ⟨bl, hbl⟩ : ∃ bl, bl = bvs x.2.1 := ⟨_, rfl⟩
          have HBL : Hid (bl.length = 64) := Lib.hid (by rw [hbl, bvs_length, x.2.2])
          have RB := B2.range 1 bl (by rw [hxc, hbl]; show (bvs x.2.1).take (bvs x.2.1).length = _; exact List.take_length)
          have HBS := Lib.hid (run_secb x.2)
          obtain ⟨s2, hs2⟩ : ∃ s2, s2 = scell (x.2, false) := ⟨_, rfl⟩
          rw [← hbl, ← hs2] at HBS
          have HS2 := Lib.hid hs2
          have HSL2 : Hid (s2.length = 65) := Lib.hid (by rw [hs2, scell_len])
          have ON2 : Hid ((s2.toArray.all (·.oneCell')) = true) := Lib.hid (by rw [hs2]; exact all_oneCell_toArray (scell_one _))
          have IN2 : (Try.prog.info? 63).map (·.size) = some s2.toArray.size := by rw [(List.size_toArray).trans HSL2.out]; exact info_sec
          have TH2 : W2.there w.heap.size 0 s2.toArray.size := by
            rw [(List.size_toArray).trans HSL2.out]
            exact HBW.out.there 0 65 (by rw [scell_len]; omega)
          have B3 : Blk (W2.setCells w.heap.size 0 s2) w.heap.size s2 := by
            have := HBW.out.sets s2 0 (by rw [scell_len, HSL2.out]; omega)
            rw [List.take_zero, List.nil_append, Nat.zero_add, List.drop_eq_nil_of_le (by rw [scell_len, HSL2.out]; omega), List.append_nil] at this
            exact this
          have HB3 := Lib.hid B3
          have HL3 := Lib.hid (below_sets (Nat.le_refl _) s2 0 HLW.out)
          clear hxc hzc HXZ BN B2 hW2 L2 hrq hql hbl hs2 B3 HB HL
          obtain ⟨xa, xb⟩ := x
          dsimp only at w0 HDA
          have HX := Lib.hid hx
          clear hx
          by_cases hxa : xa = (k0 : Int)
          · subst hxa
            rw [if_pos rfl] at HDA
            go_wp2_with (first
              | (refine wpList_load_mid rfl 59 (.tmp 33) rfl q (k * 65) rfl xc _ hrg hu rfl (by rw [HXL.out]; exact info_wri) ?_)
              | (refine wpList_new rfl 59 rfl zc (HZA.out _) ?_)
              | (refine wpList_store_mid rfl 59 (.tmp 9) (.tmp 34) rfl wr.heap.size 0 xc.toArray rfl rfl TH IN1 ONE ?_
                 simp only [Act.put]
                 generalize hw6 : World.setCells _ wr.heap.size 0 xc.toArray.toList = w6
                 have e6 : w6 = W2 := hw6.symm.trans HW2.out.symm
                 subst e6
                 clear hw6 TH hrg)
              | (refine wpList_load_mid rfl 57 (.tmp 39) rfl wr.heap.size 1 rfl bl _ RB hub rfl (by rw [HBL.out]; exact info_bytes) ?_)
              | (refine wpList_exec (by rfl) (.agg s2.toArray) (exec_build 63 (.tmp 40) rfl (.agg bl.toArray) (.agg s2.toArray) rfl (HBS.out _)) ?_)
              | (refine wpList_store_mid rfl 63 (.tmp 7) (.tmp 41) rfl w.heap.size 0 s2.toArray rfl rfl TH2 IN2 ON2.out ?_
                 simp only [Act.put]
                 generalize hw7 : World.setCells _ w.heap.size 0 s2.toArray.toList = w7
                 have B7 : Blk w7 w.heap.size s2 := by rw [← hw7]; exact HB3.out
                 have L7 : Below w.heap.size w w7 := by rw [← hw7]; exact HL3.out
                 have B7 := Lib.hid B7
                 have L7 := Lib.hid L7
                 clear hw7 TH2)
              | fail)
            go_roundw
            case rel => exact ⟨k + 1, by omega, by go_num, Lib.hid (by rw [HDA.out, ← HS2.out]; exact B7.out), L7⟩
            case measure => simp [intOf]; omega
          · have ne : (xa == (k0 : Int)) = false := by rw [beq_eq_false_iff_ne]; exact hxa
            rw [if_neg hxa] at HDA
            clear hxa
            go_wp2_with (first
              | (refine wpList_load_mid rfl 59 (.tmp 33) rfl q (k * 65) rfl xc _ hrg hu rfl (by rw [HXL.out]; exact info_wri) ?_)
              | (refine wpList_new rfl 59 rfl zc (HZA.out _) ?_)
              | (refine wpList_store_mid rfl 59 (.tmp 9) (.tmp 34) rfl wr.heap.size 0 xc.toArray rfl rfl TH IN1 ONE ?_
                 simp only [Act.put]
                 generalize hw6 : World.setCells _ wr.heap.size 0 xc.toArray.toList = w6
                 have e6 : w6 = W2 := hw6.symm.trans HW2.out.symm
                 subst e6
                 clear hw6 TH hrg)
              | fail)
            go_roundw
            case rel => exact ⟨k + 1, by omega, by go_num, Lib.hid (by rw [HDA.out]; exact HBW.out), HLW⟩
            case measure => simp [intOf]; omega
        · obtain rfl : k = n := by omega
          have d1 : decide ((k : Int) < (k : Int)) = false := by simp
          have HDL : Hid (dlk D (k0 : Int) k = dlook D (k0 : Int)) := Lib.hid (by rw [HN.out]; exact dlk_all _ _)
          rw [HDL.out] at HB
          obtain ⟨cs, hcs⟩ : ∃ cs, cs = dlook D (k0 : Int) := ⟨_, rfl⟩
          rw [← hcs] at HB HR
          clear hcs
          have e64 := HB.out.cell (scell_64 cs)
          have hsee : Sees wr wr.heap.size (some ⟨w.heap.size, 0, none⟩) (bvs cs.1.1) := fun _ => ⟨w.heap.size, 0, rfl, HB.out.lt, fun j hj => by
            rw [Nat.zero_add]
            have h1 : (scell cs)[j]? = some (bvs cs.1.1)[j] := by
              unfold scell
              rw [List.getElem?_append_left hj, List.getElem?_eq_getElem hj]
            exact HB.out.cell h1⟩
          have hstr := run_str (P := Try.prog) wr wr.heap.size 60 5 9 Try.underlying60 Try.underlying5 Try.underlying9 (some ⟨w.heap.size, 0, none⟩) 64 64 cs.1.1 cs.1.2 hsee
          obtain ⟨st, hst⟩ : ∃ st, st = str cs.1.1 := ⟨_, rfl⟩
          rw [← hst] at hstr
          have HST := Lib.hid hst
          clear hsee hst
          cases hb : cs.2 with
          | true =>
            rw [hb] at e64 HR
            go_wp2_with fail
            exact bodyPost_ret (results_tmp2 rfl _ _ _) rfl ⟨by rw [HR.out]; rfl, HL.out⟩
          | false =>
            rw [hb] at e64 HR
            go_wp2_with fail
            exact bodyPost_ret (results_tmp2 rfl _ _ _) rfl ⟨by rw [HR.out, if_neg (by simp), ← HST.out]; rfl, HL.out⟩
end Go.Proofs.Ytjnfdhjnfginpaa
