/- Disks: a sector is read: Read: what it returns. -/
import Derived.Test.YtncbhpopobjaiaaR10
import Derived.Test.YtncbhpopobjaiaaR8
import Derived.Test.YtncbhpopobjaiaaR5
import Derived.Test.YtncbhpopobjaiaaR3
import Derived.ArgAppend
namespace Go.Proofs.Ytncbhpopobjaiaa
set_option linter.unusedVariables false
set_option linter.unusedSimpArgs false
open Go Go.RowKit

/-- What lies at a place, of the writes up to the k-th. -/
def dlk (D : Dk) (a : Int) (k : Nat) : Sc := (D.w.take k).foldl (fun c x => if x.1 = a then (x.2, false) else c) (D.s.getD a.toNat (z64, false))
theorem dlk_zero (D : Dk) (a : Int) : dlk D a 0 = D.s.getD a.toNat (z64, false) := rfl
theorem dlk_succ (D : Dk) (a : Int) (k : Nat) (hk : k < D.w.length) : dlk D a (k + 1) = if D.w[k].1 = a then (D.w[k].2, false) else dlk D a k := by
  unfold dlk
  rw [List.take_succ_eq_append_getElem hk, List.foldl_append]
  rfl
theorem dlk_all (D : Dk) (a : Int) : dlk D a D.w.length = dlook D a := by unfold dlk dlook; rw [List.take_length]
theorem sc_len (l : List Sc) : ∀ x ∈ l, (scell x).length = 65 := fun x _ => scell_len x
theorem scell_64 (c : Sc) : (scell c)[64]? = some (.bool c.2) := by
  unfold scell
  rw [List.getElem?_append_right (by rw [bvs_length, c.1.2]; exact Nat.le_refl _), bvs_length, c.1.2]
  rfl
theorem scell_take (c : Sc) : (scell c).take 64 = bvs c.1.1 := by
  unfold scell
  rw [List.take_append_of_le_length (by rw [bvs_length, c.1.2]; exact Nat.le_refl _), List.take_of_length_le (by rw [bvs_length, c.1.2]; exact Nat.le_refl _)]

set_option maxRecDepth 100000 in
set_option maxHeartbeats 6400000 in
theorem read_any (L g b : Nat) (r : Option Nat) (D : Dk) (a : Int) (w : World) (h : DkAt w L g b r D) (hw : D.w.length ≤ 65536) :
    Calls Try.prog 46 #[.pointer (some ⟨g, 0, none⟩), .int .i64 a] w fun e w' => e = .returned (.tuple #[.string (str (dread D a).1), .int .i64 (dread D a).2]) ∧ Below w.heap.size w w' := by
  have hu := Try.underlying86
  have hu2 := Try.underlying104
  have hub := Try.underlying84
  have HRD := Lib.hid (ready_any L g b r D w h)
  have HHS := Lib.hid (has_any L g b r D a w h)
  cases hd : D.dead with
  | true =>
    have HR : Hid (dread D a = ([], 15)) := Lib.hid (by unfold dread; rw [hd]; rfl)
    rw [hd] at HRD
    clear h hd
    go_enter Try.func46, Try.ntmps46
    go_wp2_with fail
    refine HRD.out.mono ?_
    rintro e w1 ⟨rfl, rfl⟩
    go_wp2_with fail
    exact bodyPost_ret (results_tmp2 rfl _ _ _) rfl ⟨by rw [HR.out]; rfl, Below.refl _ _⟩
  | false =>
    rw [hd] at HRD
    cases hs : dhas D a with
    | false =>
      have HR : Hid (dread D a = ([], 1)) := Lib.hid (by unfold dread; rw [hd, hs]; rfl)
      rw [hs] at HHS
      clear h hd hs
      go_enter Try.func46, Try.ntmps46
      go_wp2_with fail
      refine HRD.out.mono ?_
      rintro e w1 ⟨rfl, rfl⟩
      go_wp2_with fail
      refine HHS.out.mono ?_
      rintro e w1 ⟨rfl, rfl⟩
      go_wp2_with fail
      exact bodyPost_ret (results_tmp2 rfl _ _ _) rfl ⟨by rw [HR.out]; rfl, Below.refl _ _⟩
    | true =>
      rw [hs] at HHS
      have HR : Hid (dread D a = if (dlook D a).2 then ([], 16) else ((dlook D a).1.1, 0)) := Lib.hid (by unfold dread; rw [hd, hs]; rfl)
      unfold dhas at hs
      rw [decide_eq_true_eq] at hs
      obtain ⟨k0, rfl⟩ : ∃ k : Nat, a = (k : Int) := ⟨a.toNat, by omega⟩
      have hk0 : k0 < D.s.length := by omega
      obtain ⟨A, c, c0, c1, c2, c3, hrow, hre, hfz⟩ := h.cells
      obtain ⟨n, hn⟩ : ∃ n, n = D.w.length := ⟨_, rfl⟩
      obtain ⟨m, hm⟩ : ∃ m, m = D.s.length := ⟨_, rfl⟩
      rw [← hn] at c1
      rw [← hm] at c0 hk0
      have hn16 : n ≤ 65536 := by rw [hn]; exact hw
      have HN := Lib.hid hn
      have HGL := h.lt
      have H0 := Lib.hid h
      have hsl := (scs_len D.s)
      have hks : k0 * 65 + 65 ≤ D.s.length * 65 := by rw [← hm]; have := Nat.mul_le_mul_right 65 (Nat.succ_le_of_lt hk0); omega
      have hget : ((scs D.s).drop (k0 * 65)).take (scell (D.s.getD k0 (z64, false))).length = scell (D.s.getD k0 (z64, false)) := by
        rw [scell_len, List.getD_eq_getElem?_getD, List.getElem?_eq_getElem (by rw [← hm]; exact hk0)]
        exact rws_get (f := scell) D.s (sc_len _) k0 (by rw [← hm]; exact hk0)
      have hrs := h.secs.range (k0 * 65) _ hget
      obtain ⟨sc, hsc⟩ : ∃ sc, sc = scell (D.s.getD k0 (z64, false)) := ⟨_, rfl⟩
      rw [← hsc] at hrs
      obtain ⟨zs, hzs⟩ : ∃ zs, zs = scell (z64, false) := ⟨_, rfl⟩
      have HZS : Hid (∀ wx : World, (Instr.alloc 104 true (.tuple #[])).run Try.prog wx = .ok (.pointer (some ⟨wx.heap.size, 0, none⟩)) (wx.alloc (.cells zs.toArray 104))) := Lib.hid (fun wx => by rw [hzs]; exact zero_sec wx)
      have HSL : Hid (sc.length = 65) := Lib.hid (by rw [hsc, scell_len])
      have hsz : sc.length = zs.length := by rw [hsc, hzs, scell_len, scell_len]
      have ONS : Hid ((sc.toArray.all (·.oneCell')) = true) := Lib.hid (by rw [hsc]; exact all_oneCell_toArray (scell_one _))
      have INS : (Try.prog.info? 104).map (·.size) = some sc.toArray.size := by rw [(List.size_toArray).trans HSL.out]; exact info_sec
      have BN := Blk.new w zs 104
      have THS : (w.alloc (.cells zs.toArray 104)).there w.heap.size 0 sc.toArray.size := by
        rw [show sc.toArray.size = zs.length from (List.size_toArray).trans hsz]
        exact BN.there 0 _ (by omega)
      have B1 := BN.sets sc 0 (by omega)
      rw [show zs.take 0 ++ sc ++ zs.drop (0 + sc.length) = sc by rw [Nat.zero_add, List.drop_eq_nil_of_le (by omega)]; simp] at B1
      obtain ⟨W1, hW1⟩ : ∃ W1, W1 = (w.alloc (.cells zs.toArray 104)).setCells w.heap.size 0 sc := ⟨_, rfl⟩
      rw [← hW1] at B1
      have L1 : Below w.heap.size w W1 := by rw [hW1]; exact below_sets (Nat.le_refl _) sc 0 ((Below.refl w.heap.size w).alloc (Nat.le_refl _) _)
      have HB1 : Hid (Blk W1 w.heap.size (scell (dlk D (k0 : Int) 0))) := Lib.hid (by rw [dlk_zero, Int.toNat_natCast, ← hsc]; exact B1)
      have HL1 := Lib.hid L1
      have HW1 := Lib.hid hW1
      have cw1 : W1.cell? ⟨g, 1, none⟩ = some (.slice A n c) := (L1.cell (p := ⟨g, 1, none⟩) HGL.1).trans c1
      clear h hd hs hrow hre hfz c2 c3 hw hsl hks hget hsc hzs hsz BN B1 hW1 L1 hn hm
      go_enter Try.func46, Try.ntmps46
      go_wp2_with fail
      refine HRD.out.mono ?_
      rintro e w1 ⟨rfl, rfl⟩
      go_wp2_with fail
      refine HHS.out.mono ?_
      rintro e w1 ⟨rfl, rfl⟩
      go_wp2_with (first
        | (refine wpList_load_mid rfl 104 (.tmp 24) rfl b (k0 * 65) rfl sc _ hrs hu2 rfl (by rw [HSL.out]; exact info_sec) ?_)
        | (refine wpList_new rfl 104 rfl zs (HZS.out _) ?_)
        | (refine wpList_store_mid rfl 104 (.tmp 7) (.tmp 25) rfl w.heap.size 0 sc.toArray rfl rfl THS INS ONS.out ?_
           simp only [Act.put]
           generalize hw6 : World.setCells _ w.heap.size 0 sc.toArray.toList = w6
           have e6 : w6 = W1 := hw6.symm.trans HW1.out.symm
           subst e6
           clear hw6 THS hrs)
        | fail)
      clear HSL ONS INS HW1
      go_loopw [31] (fun i wr => ∃ k : Nat, k ≤ n ∧ i = .int .i64 (k : Int) ∧ Hid (Blk wr w.heap.size (scell (dlk D (k0 : Int) k))) ∧ Hid (Below w.heap.size w wr)) (fun i _ => n - (intOf i).toNat)
      case atStart => exact ⟨0, by omega, rfl, HB1, HL1⟩
      case round =>
        obtain ⟨k, hk, rfl, HB, HL⟩ := hrel
        by_cases hlt : k < n
        · have d1 : decide ((k : Int) < (n : Int)) = true := decide_eq_true (by omega)
          have hkl : k < D.w.length := by rw [← HN.out]; exact hlt
          obtain ⟨q, eA, hrq, hrg, hql⟩ := DkAt.wait H0.out c1 HN.out k hkl
          subst eA
          have HDA := Lib.hid (dlk_succ D (k0 : Int) k hkl)
          obtain ⟨x, hx⟩ : ∃ x, x = D.w[k] := ⟨_, rfl⟩
          have hrg : wr.rangeAt q (k * 65) (wcell x) := by
            rw [hx]
            exact fun j v hj => (HL.out.cell (p := ⟨q, k * 65 + j, none⟩) hql).trans (hrg j v hj)
          rw [← hx] at HDA
          have ONE := all_oneCell_toArray (wcell_one x)
          obtain ⟨xc, hxc⟩ : ∃ xc, xc = wcell x := ⟨_, rfl⟩
          obtain ⟨zc, hzc⟩ : ∃ zc, zc = wcell (0, z64) := ⟨_, rfl⟩
          have HZA : Hid (∀ wx : World, (Instr.alloc 86 true (.tuple #[])).run Try.prog wx = .ok (.pointer (some ⟨wx.heap.size, 0, none⟩)) (wx.alloc (.cells zc.toArray 86))) := Lib.hid (fun wx => by rw [hzc]; exact zero_wr wx)
          have HXL : Hid (xc.length = 65) := Lib.hid (by rw [hxc, wcell_len])
          have HXZ : xc.length = zc.length := by rw [hxc, hzc, wcell_len, wcell_len]
          rw [← hxc] at hrg ONE
          have IN1 : (Try.prog.info? 86).map (·.size) = some xc.toArray.size := by rw [(List.size_toArray).trans HXL.out]; exact info_wri
          have BN := Blk.new wr zc 86
          have TH : (wr.alloc (.cells zc.toArray 86)).there wr.heap.size 0 xc.toArray.size := by
            rw [show xc.toArray.size = zc.length from (List.size_toArray).trans HXZ]
            exact BN.there 0 _ (by omega)
          have B2 := BN.sets xc 0 (by omega)
          rw [show zc.take 0 ++ xc ++ zc.drop (0 + xc.length) = xc by rw [Nat.zero_add, List.drop_eq_nil_of_le (by omega)]; simp] at B2
          obtain ⟨W2, hW2⟩ : ∃ W2, W2 = (wr.alloc (.cells zc.toArray 86)).setCells wr.heap.size 0 xc := ⟨_, rfl⟩
          rw [← hW2] at B2
          have L2 : Below wr.heap.size wr W2 := by rw [hW2]; exact below_sets (Nat.le_refl _) xc 0 ((Below.refl wr.heap.size wr).alloc (Nat.le_refl _) _)
          have HBW := Lib.hid (HB.out.later L2)
          have HLW := Lib.hid (HL.out.trans (L2.mono HL.out.size))
          have HW2 := Lib.hid hW2
          have w0 : W2.cell? ⟨wr.heap.size, 0, none⟩ = some (.int .i64 x.1) := B2.cell (j := 0) (by rw [hxc]; rfl)
          obtain ⟨bl, hbl⟩ : ∃ bl, bl = bvs x.2.1 := ⟨_, rfl⟩
          have HBL : Hid (bl.length = 64) := Lib.hid (by rw [hbl, bvs_length, x.2.2])
          have RB := B2.range 1 bl (by rw [hxc, hbl]; show (bvs x.2.1).take (bvs x.2.1).length = _; exact List.take_length)
          have HBS := Lib.hid (run_secb x.2)
          obtain ⟨s2, hs2⟩ : ∃ s2, s2 = scell (x.2, false) := ⟨_, rfl⟩
          rw [← hbl, ← hs2] at HBS
          have HS2 := Lib.hid hs2
          have HSL2 : Hid (s2.length = 65) := Lib.hid (by rw [hs2, scell_len])
          have ON2 : Hid ((s2.toArray.all (·.oneCell')) = true) := Lib.hid (by rw [hs2]; exact all_oneCell_toArray (scell_one _))
          have IN2 : (Try.prog.info? 104).map (·.size) = some s2.toArray.size := by rw [(List.size_toArray).trans HSL2.out]; exact info_sec
          have TH2 : W2.there w.heap.size 0 s2.toArray.size := by
            rw [(List.size_toArray).trans HSL2.out]
            exact HBW.out.there 0 65 (by rw [scell_len]; omega)
          have B3 : Blk (W2.setCells w.heap.size 0 s2) w.heap.size s2 := by
            have := HBW.out.sets s2 0 (by rw [scell_len, HSL2.out]; omega)
            rw [List.take_zero, List.nil_append, Nat.zero_add, List.drop_eq_nil_of_le (by rw [scell_len, HSL2.out]; omega), List.append_nil] at this
            exact this
          have HB3 := Lib.hid B3
          have HL3 := Lib.hid (below_sets (Nat.le_refl _) s2 0 HLW.out)
          clear hxc hzc HXZ BN B2 hW2 L2 hrq hql hbl hs2 B3 HB HL
          obtain ⟨xa, xb⟩ := x
          dsimp only at w0 HDA
          have HX := Lib.hid hx
          clear hx
          by_cases hxa : xa = (k0 : Int)
          · subst hxa
            rw [if_pos rfl] at HDA
            go_wp2_with (first
              | (refine wpList_load_mid rfl 86 (.tmp 33) rfl q (k * 65) rfl xc _ hrg hu rfl (by rw [HXL.out]; exact info_wri) ?_)
              | (refine wpList_new rfl 86 rfl zc (HZA.out _) ?_)
              | (refine wpList_store_mid rfl 86 (.tmp 9) (.tmp 34) rfl wr.heap.size 0 xc.toArray rfl rfl TH IN1 ONE ?_
                 simp only [Act.put]
                 generalize hw6 : World.setCells _ wr.heap.size 0 xc.toArray.toList = w6
                 have e6 : w6 = W2 := hw6.symm.trans HW2.out.symm
                 subst e6
                 clear hw6 TH hrg)
              | (refine wpList_load_mid rfl 84 (.tmp 39) rfl wr.heap.size 1 rfl bl _ RB hub rfl (by rw [HBL.out]; exact info_bytes) ?_)
              | (refine wpList_exec (by rfl) (.agg s2.toArray) (exec_build 104 (.tmp 40) rfl (.agg bl.toArray) (.agg s2.toArray) rfl (HBS.out _)) ?_)
              | (refine wpList_store_mid rfl 104 (.tmp 7) (.tmp 41) rfl w.heap.size 0 s2.toArray rfl rfl TH2 IN2 ON2.out ?_
                 simp only [Act.put]
                 generalize hw7 : World.setCells _ w.heap.size 0 s2.toArray.toList = w7
                 have B7 : Blk w7 w.heap.size s2 := by rw [← hw7]; exact HB3.out
                 have L7 : Below w.heap.size w w7 := by rw [← hw7]; exact HL3.out
                 have B7 := Lib.hid B7
                 have L7 := Lib.hid L7
                 clear hw7 TH2)
              | fail)
            go_roundw
            case rel => exact ⟨k + 1, by omega, by go_num, Lib.hid (by rw [HDA.out, ← HS2.out]; exact B7.out), L7⟩
            case measure => simp [intOf]; omega
          · have ne : (xa == (k0 : Int)) = false := by rw [beq_eq_false_iff_ne]; exact hxa
            rw [if_neg hxa] at HDA
            clear hxa
            go_wp2_with (first
              | (refine wpList_load_mid rfl 86 (.tmp 33) rfl q (k * 65) rfl xc _ hrg hu rfl (by rw [HXL.out]; exact info_wri) ?_)
              | (refine wpList_new rfl 86 rfl zc (HZA.out _) ?_)
              | (refine wpList_store_mid rfl 86 (.tmp 9) (.tmp 34) rfl wr.heap.size 0 xc.toArray rfl rfl TH IN1 ONE ?_
                 simp only [Act.put]
                 generalize hw6 : World.setCells _ wr.heap.size 0 xc.toArray.toList = w6
                 have e6 : w6 = W2 := hw6.symm.trans HW2.out.symm
                 subst e6
                 clear hw6 TH hrg)
              | fail)
            go_roundw
            case rel => exact ⟨k + 1, by omega, by go_num, Lib.hid (by rw [HDA.out]; exact HBW.out), HLW⟩
            case measure => simp [intOf]; omega
        · obtain rfl : k = n := by omega
          have d1 : decide ((k : Int) < (k : Int)) = false := by simp
          have HDL : Hid (dlk D (k0 : Int) k = dlook D (k0 : Int)) := Lib.hid (by rw [HN.out]; exact dlk_all _ _)
          rw [HDL.out] at HB
          obtain ⟨cs, hcs⟩ : ∃ cs, cs = dlook D (k0 : Int) := ⟨_, rfl⟩
          rw [← hcs] at HB HR
          clear hcs
          have e64 := HB.out.cell (scell_64 cs)
          have hsee : Sees wr wr.heap.size (some ⟨w.heap.size, 0, none⟩) (bvs cs.1.1) := fun _ => ⟨w.heap.size, 0, rfl, HB.out.lt, fun j hj => by
            rw [Nat.zero_add]
            have h1 : (scell cs)[j]? = some (bvs cs.1.1)[j] := by
              unfold scell
              rw [List.getElem?_append_left hj, List.getElem?_eq_getElem hj]
            exact HB.out.cell h1⟩
          have hstr := run_str (P := Try.prog) wr wr.heap.size 62 5 9 Try.underlying62 Try.underlying5 Try.underlying9 (some ⟨w.heap.size, 0, none⟩) 64 64 cs.1.1 cs.1.2 hsee
          obtain ⟨st, hst⟩ : ∃ st, st = str cs.1.1 := ⟨_, rfl⟩
          rw [← hst] at hstr
          have HST := Lib.hid hst
          clear hsee hst
          cases hb : cs.2 with
          | true =>
            rw [hb] at e64 HR
            go_wp2_with fail
            exact bodyPost_ret (results_tmp2 rfl _ _ _) rfl ⟨by rw [HR.out]; rfl, HL.out⟩
          | false =>
            rw [hb] at e64 HR
            go_wp2_with fail
            exact bodyPost_ret (results_tmp2 rfl _ _ _) rfl ⟨by rw [HR.out, if_neg (by simp), ← HST.out]; rfl, HL.out⟩
end Go.Proofs.Ytncbhpopobjaiaa

/- Roots: the root of the program's disk. -/
namespace Go.Proofs.Ytncbhpopobjaiaa
set_option linter.unusedVariables false
set_option linter.unusedSimpArgs false
open Go Go.RowKit SumM OctM

/-- The better one of a root and of what lies at a place. -/
def rpick (D : Dk) (best : Rt) (a : Int) : Rt := if (dread D a).2 = 0 ∧ (rget (dread D a).1).2 = true ∧ best.1 < (rget (dread D a).1).1.1 then (rget (dread D a).1).1 else best
def rbest (D : Dk) : Nat → Rt
  | 0 => rt0
  | k + 1 => rpick D (rbest D k) (k : Int)
/-- A disk's root. -/
def rload (D : Dk) : Rt × Int := if D.dead then (rt0, 15) else if (rbest D 2).1 = 0 then (rt0, 16) else (rbest D 2, 0)
theorem dread_len (D : Dk) (a : Int) : (dread D a).1.length ≤ 64 := by
  unfold dread
  split
  · simp
  · split
    · split
      · simp
      · rw [(dlook D a).1.2]; exact Nat.le_refl _
    · simp
set_option maxRecDepth 100000 in
set_option maxHeartbeats 6400000 in
theorem load_any (L g b : Nat) (r : Option Nat) (D : Dk) (w : World) (h : DkAt w L g b r D) (hw : D.w.length ≤ 65536) :
    Calls Try.prog 24 #[.pointer (some ⟨g, 0, none⟩)] w fun e w' => e = .returned (.tuple #[.agg (rtc (rload D).1).toArray, .int .i64 (rload D).2]) ∧ Below w.heap.size w w' := by
  have hu := Try.underlying25
  have HDE : Hid (∀ wx, Below w.heap.size w wx → Calls Try.prog 45 #[.pointer (some ⟨g, 0, none⟩)] wx fun e w' => e = .returned (.bool D.dead) ∧ wx = w') := Lib.hid (fun wx hb => dead_any L g b r D wx (h.later hb))
  have HRD : Hid (∀ (k : Nat) wx, Below w.heap.size w wx → Calls Try.prog 46 #[.pointer (some ⟨g, 0, none⟩), .int .i64 (k : Int)] wx fun e w' => e = .returned (.tuple #[.string (str (dread D k).1), .int .i64 (dread D k).2]) ∧ Below wx.heap.size wx w') := Lib.hid (fun k wx hb => read_any L g b r D k wx (h.later hb) hw)
  have HLN := Lib.hid (fun k : Nat => dread_len D k)
  have HB0 : Hid (Blk (w.alloc (.cells #[.int .i64 0, .int .i64 0, .int .i64 0] 25)) w.heap.size [.int .i64 0, .int .i64 0, .int .i64 0]) := Lib.hid (Blk.new w [.int .i64 0, .int .i64 0, .int .i64 0] 25)
  have HL0 := Lib.hid ((Below.refl w.heap.size w).alloc (Nat.le_refl _) (.cells #[.int .i64 0, .int .i64 0, .int .i64 0] 25))
  have hz1 : (w.alloc (.cells #[.int .i64 0, .int .i64 0, .int .i64 0] 25)).heap.size = w.heap.size + 1 := by simp
  have BX1 := Blk.new (w.alloc (.cells #[.int .i64 0, .int .i64 0, .int .i64 0] 25)) [.int .i64 0, .int .i64 0, .int .i64 0] 25
  rw [hz1] at BX1
  have HX1 := Lib.hid BX1
  have HB1 := Lib.hid (HB0.out.alloc (.cells #[.int .i64 0, .int .i64 0, .int .i64 0] 25))
  have HL1 := Lib.hid (HL0.out.alloc (by simp) (.cells #[.int .i64 0, .int .i64 0, .int .i64 0] 25))
  clear BX1 hz1 hw h
  cases hd : D.dead with
  | true =>
    rw [hd] at HDE
    have HR : Hid (rload D = (rt0, 15)) := Lib.hid (by unfold rload; rw [hd]; rfl)
    have HDC := Lib.hid (HDE.out _ HL0.out)
    clear hd HB1 HX1 HL1
    have TH := HB0.out.there 0 3 (by simp)
    have HBZ : Hid (Blk ((w.alloc (.cells #[.int .i64 0, .int .i64 0, .int .i64 0] 25)).setCells w.heap.size 0 [.int .i64 0, .int .i64 0, .int .i64 0]) w.heap.size [.int .i64 0, .int .i64 0, .int .i64 0]) := Lib.hid (HB0.out.sets [.int .i64 0, .int .i64 0, .int .i64 0] 0 (by simp))
    have HLZ := Lib.hid (below_sets (Nat.le_refl w.heap.size) [.int .i64 0, .int .i64 0, .int .i64 0] 0 HL0.out)
    go_enter Try.func24, Try.ntmps24
    go_wp2_with fail
    refine HDC.out.mono ?_
    rintro e w1 ⟨rfl, rfl⟩
    go_wp2_with (first
      | (refine wpList_store_mid rfl 25 (.tmp 2) (.tmp 15) rfl w.heap.size 0 #[.int .i64 0, .int .i64 0, .int .i64 0] rfl rfl TH info_rtto (by simp [Value.oneCell']) ?_
         simp only [Act.put, List.setIfInBounds_toArray, List.set_cons_zero, List.set_cons_succ])
      | fail)
    exact bodyPost_ret (v := .tuple #[.agg #[.int .i64 0, .int .i64 0, .int .i64 0], .int .i64 15]) (results_rows_tmp rfl _ _ w.heap.size [.int .i64 0, .int .i64 0, .int .i64 0] _ (.int .i64 15) rfl rfl HBZ.out hu rfl info_rtto) rfl ⟨by rw [HR.out]; rfl, HLZ.out⟩
  | false =>
    rw [hd] at HDE
    have HR : Hid (rload D = if (rbest D 2).1 = 0 then (rt0, 16) else (rbest D 2, 0)) := Lib.hid (by unfold rload; rw [hd]; rfl)
    have HDC := Lib.hid (HDE.out _ HL0.out)
    clear hd HB0 HL0
    go_enter Try.func24, Try.ntmps24
    go_wp2_with fail
    refine HDC.out.mono ?_
    rintro e w1 ⟨rfl, rfl⟩
    go_wp2_with fail
    clear HDC HDE
    go_loopw [16] (fun i wr => ∃ k : Nat, k ≤ 2 ∧ i = .int .i64 (k : Int) ∧ Hid (Blk wr w.heap.size [.int .i64 0, .int .i64 0, .int .i64 0]) ∧ Hid (Blk wr (w.heap.size + 1) [.int .i64 (rbest D k).1, .int .i64 (rbest D k).2.1, .int .i64 (rbest D k).2.2]) ∧ Hid (Below w.heap.size w wr)) (fun i _ => (2 - intOf i).toNat)
    case atStart => exact ⟨0, by omega, rfl, HB1, HX1, HL1⟩
    case round =>
      clear HB1 HX1 HL1
      obtain ⟨k, hk, rfl, HB, HX, HL⟩ := hrel
      by_cases hlt : k < 2
      · have hlti : decide ((k : Int) < 2) = true := decide_eq_true (by omega)
        have HP : Hid (rbest D (k + 1) = rpick D (rbest D k) (k : Int)) := Lib.hid rfl
        have HR1 := Lib.hid (HRD.out k wr HL.out)
        have hln := HLN.out k
        generalize hbb : rbest D k = bb at HX HP
        unfold rpick at HP
        generalize dread D (k : Int) = o at HR1 HP hln
        obtain ⟨so, eo⟩ := o
        dsimp only at HR1 HP hln
        obtain ⟨sv, hsv⟩ : ∃ sv, sv = str so := ⟨_, rfl⟩
        have HGT : Hid (∀ wx, Calls Try.prog 7 #[.string sv] wx fun e w' => e = .returned (.tuple #[.agg (rtc (rget so).1).toArray, .bool (rget so).2]) ∧ Below wx.heap.size wx w') := Lib.hid (fun wx => by rw [hsv]; exact rtget_any so wx (by omega))
        rw [← hsv] at HR1
        clear hsv hln hbb
        obtain ⟨bs, bl, bh⟩ := bb
        dsimp only at HX HP
        go_wp2_with fail
        refine HR1.out.mono ?_
        rintro e w3 ⟨rfl, hb3⟩
        have HB3 := Lib.hid (HB.out.later hb3)
        have HX3 := Lib.hid (HX.out.later hb3)
        have HL3 := Lib.hid (HL.out.trans (hb3.mono HL.out.size))
        clear hb3 HR1 HB HX HL
        by_cases he : eo = 0
        · subst he
          generalize hgg : rget so = gg at HGT HP
          clear hgg
          obtain ⟨⟨x1, x2, x3⟩, is⟩ := gg
          dsimp only at HGT HP
          have HGT : Hid (∀ wx, Calls Try.prog 7 #[.string sv] wx fun e w' => e = .returned (.tuple #[.agg #[.int .i64 x1, .int .i64 x2, .int .i64 x3], .bool is]) ∧ Below wx.heap.size wx w') := HGT
          go_wp2_with fail
          refine (HGT.out w3).mono ?_
          rintro e w4 ⟨rfl, hb4⟩
          have HB4 := HB3.out.later hb4
          have HX4 := HX3.out.later hb4
          have HL4 := HL3.out.trans (hb4.mono HL3.out.size)
          have BY := Blk.new w4 [.int .i64 0, .int .i64 0, .int .i64 0] 25
          have THY := BY.there 0 3 (by simp)
          have BY5 : Blk ((w4.alloc (.cells #[.int .i64 0, .int .i64 0, .int .i64 0] 25)).setCells w4.heap.size 0 [.int .i64 x1, .int .i64 x2, .int .i64 x3]) w4.heap.size [.int .i64 x1, .int .i64 x2, .int .i64 x3] := BY.sets [.int .i64 x1, .int .i64 x2, .int .i64 x3] 0 (by simp)
          have HB5 := Blk.setsOther (b := w4.heap.size) (by have := HB4.lt; omega) [.int .i64 x1, .int .i64 x2, .int .i64 x3] 0 (HB4.alloc (.cells #[.int .i64 0, .int .i64 0, .int .i64 0] 25))
          have HX5 := Blk.setsOther (b := w4.heap.size) (by have := HX4.lt; omega) [.int .i64 x1, .int .i64 x2, .int .i64 x3] 0 (HX4.alloc (.cells #[.int .i64 0, .int .i64 0, .int .i64 0] 25))
          have HL5 := below_sets HL4.size [.int .i64 x1, .int .i64 x2, .int .i64 x3] 0 (HL4.alloc HL4.size (.cells #[.int .i64 0, .int .i64 0, .int .i64 0] 25))
          obtain ⟨W5, hW5⟩ : ∃ W5, W5 = (w4.alloc (.cells #[.int .i64 0, .int .i64 0, .int .i64 0] 25)).setCells w4.heap.size 0 [.int .i64 x1, .int .i64 x2, .int .i64 x3] := ⟨_, rfl⟩
          rw [← hW5] at BY5 HB5 HX5 HL5
          have HW5 := Lib.hid hW5
          clear hW5
          have kY := BY5.cell (j := 0) rfl
          have kX := HX5.cell (j := 0) rfl
          have RB := BY5.range 0 [.int .i64 x1, .int .i64 x2, .int .i64 x3] rfl
          have THX := HX5.there 0 3 (by simp)
          have HX6 : Hid (Blk (World.setCells W5 (w.heap.size + 1) 0 [.int .i64 x1, .int .i64 x2, .int .i64 x3]) (w.heap.size + 1) [.int .i64 x1, .int .i64 x2, .int .i64 x3]) := Lib.hid (HX5.sets [.int .i64 x1, .int .i64 x2, .int .i64 x3] 0 (by simp))
          have HB6 := Lib.hid (Blk.setsOther (b := w.heap.size + 1) (by omega) [.int .i64 x1, .int .i64 x2, .int .i64 x3] 0 HB5)
          have HL6 := Lib.hid (below_sets (Nat.le_succ w.heap.size) [.int .i64 x1, .int .i64 x2, .int .i64 x3] 0 HL5)
          have HB5 := Lib.hid HB5
          have HX5 := Lib.hid HX5
          have HL5 := Lib.hid HL5
          clear hb4 BY HB4 HX4 HL4 HB3 HX3 HL3 HGT BY5
          by_cases hc : is = true ∧ bs < x1
          · have HQ : Hid (rbest D (k + 1) = (x1, x2, x3)) := Lib.hid (by rw [HP.out, if_pos ⟨by first | rfl | trivial, hc.1, hc.2⟩])
            obtain ⟨rfl, hc⟩ := hc
            have dc : decide (bs < x1) = true := decide_eq_true hc
            clear HP hc HB5 HX5 HL5
            go_wp2_with (first
              | (have TY1 := THY
                 refine wpList_store_mid rfl 25 (.tmp 8) (.tmp 30) rfl w4.heap.size 0 #[.int .i64 x1, .int .i64 x2, .int .i64 x3] rfl rfl TY1 info_rtto (by simp [Value.oneCell']) ?_
                 simp only [Act.put, List.setIfInBounds_toArray, List.set_cons_zero, List.set_cons_succ]
                 rw [← HW5.out]
                 clear THY TY1 HW5)
              | (have RB1 := RB
                 refine wpList_load_mid rfl 25 (.tmp 8) rfl w4.heap.size 0 rfl [.int .i64 x1, .int .i64 x2, .int .i64 x3] _ RB1 hu rfl info_rtto ?_
                 simp only [Act.put, List.setIfInBounds_toArray, List.set_cons_zero, List.set_cons_succ]
                 clear RB RB1)
              | (have TX1 := THX
                 refine wpList_store_mid rfl 25 (.tmp 4) (.tmp 40) rfl (w.heap.size + 1) 0 #[.int .i64 x1, .int .i64 x2, .int .i64 x3] rfl rfl TX1 info_rtto (by simp [Value.oneCell']) ?_
                 simp only [Act.put, List.setIfInBounds_toArray, List.set_cons_zero, List.set_cons_succ]
                 clear THX TX1)
              | fail)
            go_roundw
            case rel => exact ⟨k + 1, by omega, by go_num, HB6, by rw [HQ.out]; exact HX6, HL6⟩
            case measure => simp [intOf]; omega
          · have HQ : Hid (rbest D (k + 1) = (bs, bl, bh)) := Lib.hid (by rw [HP.out, if_neg (fun e => hc e.2)])
            clear HB6 HX6 HL6 THX RB HP
            cases is with
            | true =>
              have dc : decide (bs < x1) = false := decide_eq_false (fun e => hc ⟨rfl, e⟩)
              clear hc
              go_wp2_with (first
                | (have TY1 := THY
                   refine wpList_store_mid rfl 25 (.tmp 8) (.tmp 30) rfl w4.heap.size 0 #[.int .i64 x1, .int .i64 x2, .int .i64 x3] rfl rfl TY1 info_rtto (by simp [Value.oneCell']) ?_
                   simp only [Act.put, List.setIfInBounds_toArray, List.set_cons_zero, List.set_cons_succ]
                   rw [← HW5.out]
                   clear THY TY1 HW5)
                | fail)
              go_roundw
              case rel => exact ⟨k + 1, by omega, by go_num, HB5, by rw [HQ.out]; exact HX5, HL5⟩
              case measure => simp [intOf]; omega
            | false =>
              clear hc
              go_wp2_with (first
                | (have TY1 := THY
                   refine wpList_store_mid rfl 25 (.tmp 8) (.tmp 30) rfl w4.heap.size 0 #[.int .i64 x1, .int .i64 x2, .int .i64 x3] rfl rfl TY1 info_rtto (by simp [Value.oneCell']) ?_
                   simp only [Act.put, List.setIfInBounds_toArray, List.set_cons_zero, List.set_cons_succ]
                   rw [← HW5.out]
                   clear THY TY1 HW5)
                | fail)
              go_roundw
              case rel => exact ⟨k + 1, by omega, by go_num, HB5, by rw [HQ.out]; exact HX5, HL5⟩
              case measure => simp [intOf]; omega
        · have HQ : Hid (rbest D (k + 1) = (bs, bl, bh)) := Lib.hid (by rw [HP.out, if_neg (fun e => he e.1)])
          have ne : (eo != 0) = true := by rw [bne_iff_ne]; exact he
          clear he HP HGT
          go_wp2_with fail
          go_roundw
          case rel => exact ⟨k + 1, by omega, by go_num, HB3, by rw [HQ.out]; exact HX3, HL3⟩
          case measure => simp [intOf]; omega
      · obtain rfl : k = 2 := by omega
        have hlti : decide (((2 : Nat) : Int) < 2) = false := rfl
        have HR2 := HR
        generalize rbest D 2 = bb at HX HR2
        clear HR
        obtain ⟨bs, bl, bh⟩ := bb
        dsimp only at HX HR2
        have kX := HX.out.cell (j := 0) rfl
        have RB := HX.out.range 0 [.int .i64 bs, .int .i64 bl, .int .i64 bh] rfl
        have TH := HB.out.there 0 3 (by simp)
        by_cases h0 : bs = 0
        · have HR3 : Hid (rload D = (rt0, 16)) := Lib.hid (by rw [HR2.out, if_pos h0])
          subst h0
          have HBZ : Hid (Blk (wr.setCells w.heap.size 0 [.int .i64 0, .int .i64 0, .int .i64 0]) w.heap.size [.int .i64 0, .int .i64 0, .int .i64 0]) := Lib.hid (HB.out.sets [.int .i64 0, .int .i64 0, .int .i64 0] 0 (by simp))
          have HLZ := Lib.hid (below_sets (Nat.le_refl w.heap.size) [.int .i64 0, .int .i64 0, .int .i64 0] 0 HL.out)
          clear HR2 RB
          go_wp2_with (first
            | (refine wpList_store_mid rfl 25 (.tmp 2) (.tmp 45) rfl w.heap.size 0 #[.int .i64 0, .int .i64 0, .int .i64 0] rfl rfl TH info_rtto (by simp [Value.oneCell']) ?_
               simp only [Act.put, List.setIfInBounds_toArray, List.set_cons_zero, List.set_cons_succ])
            | fail)
          exact bodyPost_ret (v := .tuple #[.agg #[.int .i64 0, .int .i64 0, .int .i64 0], .int .i64 16]) (results_rows_tmp rfl _ _ w.heap.size [.int .i64 0, .int .i64 0, .int .i64 0] _ (.int .i64 16) rfl rfl HBZ.out hu rfl info_rtto) rfl ⟨by rw [HR3.out]; rfl, HLZ.out⟩
        · have HR3 : Hid (rload D = ((bs, bl, bh), 0)) := Lib.hid (by rw [HR2.out, if_neg h0])
          have e0 : (bs == 0) = false := by rw [beq_eq_false_iff_ne]; exact h0
          have HBZ : Hid (Blk (wr.setCells w.heap.size 0 [.int .i64 bs, .int .i64 bl, .int .i64 bh]) w.heap.size [.int .i64 bs, .int .i64 bl, .int .i64 bh]) := Lib.hid (HB.out.sets [.int .i64 bs, .int .i64 bl, .int .i64 bh] 0 (by simp))
          have HLZ := Lib.hid (below_sets (Nat.le_refl w.heap.size) [.int .i64 bs, .int .i64 bl, .int .i64 bh] 0 HL.out)
          clear HR2 h0
          go_wp2_with (first
            | (refine wpList_load_mid rfl 25 (.tmp 4) rfl (w.heap.size + 1) 0 rfl [.int .i64 bs, .int .i64 bl, .int .i64 bh] _ RB hu rfl info_rtto ?_
               simp only [Act.put, List.setIfInBounds_toArray, List.set_cons_zero, List.set_cons_succ])
            | (refine wpList_store_mid rfl 25 (.tmp 2) (.tmp 46) rfl w.heap.size 0 #[.int .i64 bs, .int .i64 bl, .int .i64 bh] rfl rfl TH info_rtto (by simp [Value.oneCell']) ?_
               simp only [Act.put, List.setIfInBounds_toArray, List.set_cons_zero, List.set_cons_succ])
            | fail)
          exact bodyPost_ret (v := .tuple #[.agg #[.int .i64 bs, .int .i64 bl, .int .i64 bh], .int .i64 0]) (results_rows_tmp rfl _ _ w.heap.size [.int .i64 bs, .int .i64 bl, .int .i64 bh] _ (.int .i64 0) rfl rfl HBZ.out hu rfl info_rtto) rfl ⟨by rw [HR3.out]; rfl, HLZ.out⟩
end Go.Proofs.Ytncbhpopobjaiaa

/- Disks: a new one; a sector of bytes, as the law has it. -/
namespace Go.Proofs.Ytncbhpopobjaiaa
set_option linter.unusedVariables false
set_option linter.unusedSimpArgs false
open Go Go.RowKit

/-- Cells of zero structs, made. -/
theorem made_rws {α : Type} (f : α → List Value) (x : α) (sz : Nat) (hf : (f x).length = sz) (hz : 0 < sz) (n : Nat) : madeCells (f x).toArray (n * sz) = (rws f (List.replicate n x)).toArray := by
  have hl : ∀ y ∈ List.replicate n x, (f y).length = sz := fun y hy => by rw [List.eq_of_mem_replicate hy]; exact hf
  apply Array.toList_inj.1
  apply List.ext_getElem
  · rw [Array.length_toList, size_madeCells, rws_len _ hl, List.length_replicate]
  · intro j h1 h2
    rw [Array.length_toList, size_madeCells] at h1
    have hjd : j / sz < n := Nat.div_lt_of_lt_mul (by rw [Nat.mul_comm]; exact h1)
    have hjm : j % sz < sz := Nat.mod_lt _ hz
    have hk : j / sz < (List.replicate n x).length := by rw [List.length_replicate]; exact hjd
    have h3 := rws_at (List.replicate n x) hl (j / sz) hk (j % sz) ((f x)[j % sz]'(by rw [hf]; exact hjm)) (by rw [List.getElem_replicate]; exact List.getElem?_eq_getElem _)
    rw [show j / sz * sz + j % sz = j by rw [Nat.mul_comm]; exact Nat.div_add_mod j sz] at h3
    have h4 := (List.getElem?_eq_some_iff.1 h3).2
    rw [h4]
    simp only [madeCells, Array.toList_map, List.getElem_map, Array.toList_range, List.getElem_range, List.size_toArray, hf]
    rw [getElem!_pos (f x).toArray (j % sz) (by simp [hf]; exact hjm)]
    simp
theorem info_secd : ∃ i0, Try.prog.info? 104 = some i0 ∧ i0.zero = some (.agg (scell (z64, false)).toArray) ∧ i0.size = 65 ∧ i0.bytes = 65 := by
  have h : (Try.prog.info? 104).map (fun i => (i.zero, i.size, i.bytes)) = some (some (.agg (scell (z64, false)).toArray), 65, 65) := by kernel_rfl
  cases hi : Try.prog.info? 104 with
  | none => rw [hi] at h; cases h
  | some i0 =>
    rw [hi] at h
    simp only [Option.map_some, Option.some.injEq, Prod.mk.injEq] at h
    exact ⟨i0, rfl, h.1, h.2.1, h.2.2⟩
theorem mk_secs (n : Nat) (hn : n ≤ 2048) (w : World) : (Instr.makeSlice 77 (.int .i64 (n : Int)) (.int .i64 (n : Int))).run Try.prog w = .ok (.slice (some ⟨w.heap.size, 0, none⟩) n n) (w.alloc (.cells (scs (List.replicate n (z64, false))).toArray 104)) := by
  obtain ⟨i0, hi, hz, hs, hb⟩ := info_secd
  have hr := run_make (P := Try.prog) w 77 104 i0 _ Try.underlying77 hi hz .i64 .i64 (n : Int) (n : Int) (by omega) (Int.le_refl _) (by rw [hb]; omega) (by omega)
  simp only [Int.toNat_natCast, hs] at hr
  rw [show (Value.agg (scell (z64, false)).toArray).cells = (scell (z64, false)).toArray from rfl, made_rws scell (z64, false) 65 (scell_len _) (by decide) n] at hr
  exact hr
theorem mk_bytes (w : World) : (Instr.makeSlice 62 (.int .i64 64) (.int .i64 64)).run Try.prog w = .ok (.slice (some ⟨w.heap.size, 0, none⟩) 64 64) (w.alloc (.cells (bvs (List.replicate 64 0)).toArray 5)) := by kernel_rfl

set_option maxRecDepth 100000 in
set_option maxHeartbeats 3200000 in
theorem new_any (n : Nat) (w : World) (h1 : 1 ≤ n) (h2 : n ≤ 2048) : Calls Try.prog 15 #[.int .i64 (n : Int)] w fun e w' => e = .returned (.pointer (some ⟨w.heap.size + 1, 0, none⟩)) ∧ DkAt w' w.heap.size (w.heap.size + 1) w.heap.size none (dnew n) ∧ Below w.heap.size w w' := by
  have d1 : decide ((n : Int) < 1) = false := decide_eq_false (by omega)
  have d2 : decide ((2048 : Int) < (n : Int)) = false := decide_eq_false (by omega)
  have HM := Lib.hid (mk_secs n h2 w)
  have B1 := Blk.new w (scs (List.replicate n (z64, false))) 104
  obtain ⟨W1, hW1⟩ : ∃ W1, W1 = w.alloc (.cells (scs (List.replicate n (z64, false))).toArray 104) := ⟨_, rfl⟩
  rw [← hW1] at HM B1
  have L1 : Below w.heap.size w W1 := by rw [hW1]; exact (Below.refl w.heap.size w).alloc (Nat.le_refl _) _
  have z1 : W1.heap.size = w.heap.size + 1 := by rw [hW1]; simp
  have HE : Hid (∀ W2, W2 = W1.alloc (.cells #[.slice (some ⟨w.heap.size, 0, none⟩) n n, .slice none 0 0, .int .i64 (-1), .bool false] 80) → DkAt W2 w.heap.size (w.heap.size + 1) w.heap.size none (dnew n) ∧ Below w.heap.size w W2) := Lib.hid (fun W2 e => by
    subst e
    have B2 := Blk.new W1 [.slice (some ⟨w.heap.size, 0, none⟩) n n, .slice none 0 0, .int .i64 (-1), .bool false] 80
    rw [z1] at B2
    refine ⟨⟨⟨none, 0, ?_, World.ownsRow_nil _ _ _ _, rfl⟩, ?_, by omega, by simp, by simp, by omega, Nat.le_refl _⟩, L1.alloc (by omega) _⟩
    · rw [show (dnew n).s.length = n by simp [dnew]]
      exact B2
    · exact B1.alloc _)
  have HZ := Lib.hid z1
  clear B1 hW1 L1 h1 h2
  go_enter Try.func15, Try.ntmps15
  go_wp2_with fail
  rw [HM.out]
  simp only [Result.andThen]
  rw [Oper.upon_value]
  simp only [Act.put, List.setIfInBounds_toArray, List.set_cons_zero, List.set_cons_succ]
  go_wp2_with fail
  go_ret
  exact ⟨rfl, HE.out _ rfl⟩

/-- So many bytes of one kind. -/
def fil (k : Nat) (c : UInt8) : List UInt8 := List.replicate k c
theorem fil_len (k : Nat) (c : UInt8) : (fil k c).length = k := List.length_replicate
theorem fill_set (c : UInt8) (k : Nat) (h : k < 64) : (List.replicate k c ++ List.replicate (64 - k) 0).set k c = List.replicate (k + 1) c ++ List.replicate (64 - (k + 1)) 0 := by
  rw [List.set_append_right _ _ (by simp), List.length_replicate, Nat.sub_self]
  rw [show 64 - k = (64 - (k + 1)) + 1 by omega, List.replicate_succ, List.set_cons_zero, List.replicate_succ' (n := k), List.append_assoc]
  rfl
theorem bvs_set (l : List UInt8) (k : Nat) (c : UInt8) : (bvs l).set k (.int .u8 (c.toNat : Int)) = bvs (l.set k c) := by
  show (l.map bv).set k (bv c) = (l.set k c).map bv
  rw [List.map_set]
end Go.Proofs.Ytncbhpopobjaiaa

/- Disks: the chapter's example. -/
namespace Go.Proofs.Ytncbhpopobjaiaa
set_option linter.unusedVariables false
set_option linter.unusedSimpArgs false
open Go Go.RowKit

theorem aw_write (l : List UInt8) (h : l.length = 64) : dwrite { dnew 2 with fuse := 1 } 1 l = ({ dnew 2 with w := [(1, b64 l)], fuse := 0 }, 0) := by
  unfold dwrite dhas dstep dnew
  simp [h]
theorem aw_sync (l : List UInt8) : dsync { dnew 2 with w := [(1, b64 l)], fuse := 0 } = ({ dnew 2 with w := [(1, b64 l)], fuse := 0, dead := true }, 15) := by
  unfold dsync dstep dnew
  simp
theorem aw_read (l : List UInt8) : dread (dcrash { dnew 2 with w := [(1, b64 l)], fuse := 0, dead := true } [2]) 1 = ([], 16) := by
  unfold dread dcrash dhas dlook dnew
  simp [dkeep, dsettle, outc]
theorem aw_in (l : List UInt8) (f : Int) (d : Bool) : DIn { dnew 2 with w := [(1, b64 l)], fuse := f, dead := d } := by
  intro x hx
  simp at hx
  subst hx
  unfold dhas dnew
  simp
theorem sees_turn {w W : World} {b B : Nat} {A : Option Addr} {xs : List Value} (h : Sees w B A xs) (hB : B ≤ w.heap.size) (hT : Turn3 w W b b none) (hne : ∀ k o, A = some ⟨k, o, none⟩ → 0 < xs.length → k ≠ b) : Sees W W.heap.size A xs := fun hp => by
  obtain ⟨k, o, e, hk, hc⟩ := h hp
  refine ⟨k, o, e, Nat.lt_of_lt_of_le (Nat.lt_of_lt_of_le hk hB) hT.size, fun j hj => ?_⟩
  rw [hT.cell (by omega) (hne k o e hp)]
  exact hc j hj

end Go.Proofs.Ytncbhpopobjaiaa

/- Disks: the document's disk: where it lies; its zero, its step, its Read. -/
namespace Go.Proofs.Ytncbhpopobjaiaa
set_option linter.unusedVariables false
set_option linter.unusedSimpArgs false
open Go Go.RowKit

def stc (s : List Sc) : List Value := s.map fun x => .string (str (if x.2 then [] else x.1.1))
def wtl (x : Wr) : List Value := [.int .i64 x.1, .string (str x.2.1)]
theorem wtl_len (l : List Wr) : ∀ x ∈ l, (wtl x).length = 2 := fun _ _ => rfl
theorem stc_len (s : List Sc) : (stc s).length = s.length := by simp [stc]
theorem stc_one (s : List Sc) : ∀ u ∈ stc s, u.oneCell' = true := fun u hu => by
  unfold stc at hu
  obtain ⟨x, _, rfl⟩ := List.mem_map.1 hu
  rfl
theorem wts_one (l : List Wr) : ∀ u ∈ rws wtl l, u.oneCell' = true := rws_all (fun x _ u hu => by
  unfold wtl at hu
  simp only [List.mem_cons, List.not_mem_nil, or_false] at hu
  rcases hu with rfl | rfl <;> rfl)
/-- Where the document's disk lies: its struct's block is m, its rows lie at or above L. -/
structure RfAt (w : World) (L m : Nat) (q p : Option Nat) (D : Dk) : Prop where
  at_ : ∃ A c A' c', Blk w m [.slice A D.s.length c, .slice A' D.w.length c', .int .i64 D.fuse, .bool D.dead] ∧ w.ownsRow L 9 1 (.slice A D.s.length c) D.s.length (stc D.s) ∧ w.ownsRow L 90 2 (.slice A' D.w.length c') D.w.length (rws wtl D.w) ∧ q = (Value.slice A D.s.length c).ownBlock ∧ p = (Value.slice A' D.w.length c').ownBlock
  qm : q ≠ some m
  pm : p ≠ some m
  Lm : L ≤ m
theorem RfAt.lt {w : World} {L m : Nat} {q p : Option Nat} {D : Dk} (h : RfAt w L m q p D) : m < w.heap.size := by
  obtain ⟨A, c, A', c', B, _⟩ := h.at_
  exact B.lt
theorem RfAt.later {w w' : World} {L m : Nat} {q p : Option Nat} {D : Dk} (h : RfAt w L m q p D) (hb : Below w.heap.size w w') : RfAt w' L m q p D := by
  obtain ⟨⟨A, c, A', c', B, h1, h2, e1, e2⟩, h3, h4, h5⟩ := h
  exact ⟨⟨A, c, A', c', B.later hb, row_later h1 hb, row_later h2 hb, e1, e2⟩, h3, h4, h5⟩
theorem RfAt.drew {w : World} {L m : Nat} {q p : Option Nat} {D : Dk} (h : RfAt w L m q p D) : RfAt w.drew L m q p D := h.later ((Below.refl w.heap.size w).drew)
theorem RfAt.setFuse {w : World} {L m : Nat} {q p : Option Nat} {D : Dk} (h : RfAt w L m q p D) (x : Int) : RfAt (w.setCell ⟨m, 2, none⟩ (.int .i64 x)) L m q p { D with fuse := x } := by
  obtain ⟨⟨A, c, A', c', B, h1, h2, e1, e2⟩, h3, h4, h5⟩ := h
  refine ⟨⟨A, c, A', c', ?_, row_apartD h1 (by rw [← e1]; exact h3) [.int .i64 x] 2, row_apartD h2 (by rw [← e2]; exact h4) [.int .i64 x] 2, e1, e2⟩, h3, h4, h5⟩
  have := B.set 2 (.int .i64 x)
  simpa using this
theorem RfAt.setDead {w : World} {L m : Nat} {q p : Option Nat} {D : Dk} (h : RfAt w L m q p D) (x : Bool) : RfAt (w.setCell ⟨m, 3, none⟩ (.bool x)) L m q p { D with dead := x } := by
  obtain ⟨⟨A, c, A', c', B, h1, h2, e1, e2⟩, h3, h4, h5⟩ := h
  refine ⟨⟨A, c, A', c', ?_, row_apartD h1 (by rw [← e1]; exact h3) [.bool x] 3, row_apartD h2 (by rw [← e2]; exact h4) [.bool x] 3, e1, e2⟩, h3, h4, h5⟩
  have := B.set 3 (.bool x)
  simpa using this
theorem RfAt.setNone {w : World} {L m : Nat} {q p : Option Nat} {D : Dk} (h : RfAt w L m q p D) : RfAt (w.setCell ⟨m, 1, none⟩ (.slice none 0 0)) L m q none { D with w := [] } := by
  obtain ⟨⟨A, c, A', c', B, h1, h2, e1, e2⟩, h3, h4, h5⟩ := h
  refine ⟨⟨A, c, none, 0, ?_, row_apartD h1 (by rw [← e1]; exact h3) [.slice none 0 0] 1, World.ownsRow_nil _ _ _ _, e1, rfl⟩, h3, by simp, h5⟩
  have := B.set 1 (.slice none 0 0)
  simpa using this
theorem RfAt.cells {w : World} {L m : Nat} {q p : Option Nat} {D : Dk} (h : RfAt w L m q p D) : ∃ A c A' c', w.cell? ⟨m, 0, none⟩ = some (.slice A D.s.length c) ∧ w.cell? ⟨m, 1, none⟩ = some (.slice A' D.w.length c') ∧ w.cell? ⟨m, 2, none⟩ = some (.int .i64 D.fuse) ∧ w.cell? ⟨m, 3, none⟩ = some (.bool D.dead) ∧
    w.ownsRow L 9 1 (.slice A D.s.length c) D.s.length (stc D.s) ∧ w.ownsRow L 90 2 (.slice A' D.w.length c') D.w.length (rws wtl D.w) ∧ q = (Value.slice A D.s.length c).ownBlock ∧ p = (Value.slice A' D.w.length c').ownBlock ∧ ∀ j, w.frozen? ⟨m, j, none⟩ = false := by
  obtain ⟨A, c, A', c', B, h1, h2, e1, e2⟩ := h.at_
  exact ⟨A, c, A', c', B.cell rfl, B.cell rfl, B.cell rfl, B.cell rfl, h1, h2, e1, e2, B.frozen⟩
set_option maxRecDepth 100000 in
theorem rzero_any (w : World) : Calls Try.prog 35 #[] w fun e w' => e = .returned (.string (str z64.1)) ∧ Below w.heap.size w w' := by
  have HM := Lib.hid (mk_bytes w)
  have B1 := Blk.new w (bvs (List.replicate 64 0)) 5
  obtain ⟨W1, hW1⟩ : ∃ W1, W1 = w.alloc (.cells (bvs (List.replicate 64 0)).toArray 5) := ⟨_, rfl⟩
  rw [← hW1] at HM B1
  have HL1 : Hid (Below w.heap.size w W1) := Lib.hid (by rw [hW1]; exact (Below.refl w.heap.size w).alloc (Nat.le_refl _) _)
  have hs0 : Sees W1 W1.heap.size (some ⟨w.heap.size, 0, none⟩) (bvs z64.1) := fun _ => ⟨w.heap.size, 0, rfl, B1.lt, fun j hj => by rw [Nat.zero_add]; exact B1.cell (List.getElem?_eq_getElem hj)⟩
  have hstr0 := run_str (P := Try.prog) W1 W1.heap.size 62 5 9 Try.underlying62 Try.underlying5 Try.underlying9 (some ⟨w.heap.size, 0, none⟩) 64 64 z64.1 z64.2 hs0
  obtain ⟨s0, hs0'⟩ : ∃ s0, s0 = str z64.1 := ⟨_, rfl⟩
  rw [← hs0'] at hstr0 ⊢
  clear B1 hW1 hs0 hs0'
  go_enter Try.func35, Try.ntmps35
  go_wp2_with fail
  rw [HM.out]
  simp only [Result.andThen]
  rw [Oper.upon_value]
  simp only [Act.put, List.setIfInBounds_toArray, List.set_cons_zero, List.set_cons_succ]
  go_wp2_with fail
  go_ret
  exact ⟨rfl, HL1.out⟩
set_option maxRecDepth 100000 in
set_option maxHeartbeats 1600000 in
theorem rstep_any (L m : Nat) (q p : Option Nat) (D : Dk) (w : World) (h : RfAt w L m q p D) (hf : -9223372036854775808 ≤ D.fuse ∧ D.fuse ≤ 9223372036854775807) :
    Calls Try.prog 44 #[.pointer (some ⟨m, 0, none⟩)] w fun e w' => e = .returned (.bool (decide (D.fuse = 0))) ∧ RfAt w' L m q p (dstep D).1 ∧ Turn3 w w' m m none := by
  obtain ⟨A, c, A', c', h0, h1, h2, h3, hr1, hr2, e1, e2, hz⟩ := h.cells
  clear hr1 hr2 e1 e2
  have z2 := hz 2
  have z3 := hz 3
  have HD := Lib.hid h.setDead
  have HF := Lib.hid h.setFuse
  have HH := Lib.hid h
  clear hz h
  by_cases f0 : D.fuse = 0
  · have HR : Hid (dstep D = ({ D with dead := true }, 15)) := Lib.hid (by unfold dstep; rw [if_pos f0])
    rw [decide_eq_true f0]
    rw [f0] at h2
    clear f0
    go_enter Try.func44, Try.ntmps44
    go_wp2_with fail
    go_ret
    refine ⟨rfl, by rw [HR.out]; exact HD.out true, Turn3.set w m m m 3 none (.bool true) (.inl rfl)⟩
  · rw [decide_eq_false f0]
    obtain ⟨x, hx⟩ : ∃ x, x = D.fuse := ⟨_, rfl⟩
    rw [← hx] at f0 h2 hf
    have n0 : (x == 0) = false := by rw [beq_eq_false_iff_ne]; exact f0
    by_cases f1 : 0 < x
    · have HR : Hid (dstep D = ({ D with fuse := x - 1 }, 0)) := Lib.hid (by unfold dstep; rw [← hx, if_neg f0, if_pos f1])
      have d1 : decide (0 < x) = true := decide_eq_true f1
      clear hx f0
      go_enter Try.func44, Try.ntmps44
      go_wp2_with fail
      go_ret
      refine ⟨rfl, by rw [HR.out]; exact HF.out (x - 1), Turn3.set w m m m 2 none (.int .i64 (x - 1)) (.inl rfl)⟩
    · have HR : Hid (dstep D = (D, 0)) := Lib.hid (by unfold dstep; rw [← hx, if_neg f0, if_neg f1])
      have d1 : decide (0 < x) = false := decide_eq_false f1
      clear hx f0
      go_enter Try.func44, Try.ntmps44
      go_wp2_with fail
      go_ret
      exact ⟨rfl, by rw [HR.out]; exact HH.out, Turn3.refl w m m none⟩
theorem stc_get (s : List Sc) (k : Nat) (hk : k < s.length) : (stc s)[k]? = some (.string (str (if (s.getD k (z64, false)).2 then [] else (s.getD k (z64, false)).1.1))) := by
  unfold stc
  rw [List.getElem?_map, List.getElem?_eq_getElem hk, List.getD_eq_getElem?_getD, List.getElem?_eq_getElem hk]
  rfl
set_option maxRecDepth 100000 in
set_option maxHeartbeats 3200000 in
theorem rread_any (A A' : Option Addr) (c c' : Nat) (D : Dk) (a : Int) (w : World) (h1 : Sees w w.heap.size A (stc D.s)) (h2 : Sees w w.heap.size A' (rws wtl D.w)) (hs : D.s.length ≤ 65536) (hw : D.w.length ≤ 65536) :
    Calls Try.prog 47 #[.agg #[.slice A D.s.length c, .slice A' D.w.length c', .int .i64 D.fuse, .bool D.dead], .int .i64 a] w fun e w' => e = .returned (.tuple #[.string (str (dread D a).1), .int .i64 (dread D a).2]) ∧ Below w.heap.size w w' := by
  obtain ⟨n, hn⟩ : ∃ n, n = D.w.length := ⟨_, rfl⟩
  obtain ⟨ns, hns⟩ : ∃ ns, ns = D.s.length := ⟨_, rfl⟩
  obtain ⟨fu, hfu⟩ : ∃ fu, fu = D.fuse := ⟨_, rfl⟩
  rw [← hn, ← hns, ← hfu]
  rw [← hn] at hw
  rw [← hns] at hs
  have HH1 := Lib.hid h1
  have HH2 := Lib.hid h2
  have HN := Lib.hid hn
  have HNS := Lib.hid hns
  cases hd : D.dead with
  | true =>
    have HR : Hid (dread D a = ([], 15)) := Lib.hid (by unfold dread; rw [hd]; rfl)
    have B1 := Blk.new w [.slice A ns c, .slice A' n c', .int .i64 fu, .bool true] 43
    have L1 := (Below.refl w.heap.size w).alloc (Nat.le_refl _) (.cells #[.slice A ns c, .slice A' n c', .int .i64 fu, .bool true] 43)
    have HL1 := Lib.hid L1
    have k3 := B1.cell (j := 3) rfl
    clear h1 h2 hd hn hns hfu L1 B1
    go_enter Try.func47, Try.ntmps47
    go_wp2_with fail
    exact bodyPost_ret (results_tmp2 rfl _ _ _) rfl ⟨by rw [HR.out]; rfl, HL1.out⟩
  | false =>
    have B1 := Blk.new w [.slice A ns c, .slice A' n c', .int .i64 fu, .bool false] 43
    have L1 := (Below.refl w.heap.size w).alloc (Nat.le_refl _) (.cells #[.slice A ns c, .slice A' n c', .int .i64 fu, .bool false] 43)
    have HL1 := Lib.hid L1
    have k0 : (w.alloc (.cells #[.slice A ns c, .slice A' n c', .int .i64 fu, .bool false] 43)).cell? ⟨w.heap.size, 0, none⟩ = some (.slice A ns c) := B1.cell (j := 0) rfl
    have k1 : (w.alloc (.cells #[.slice A ns c, .slice A' n c', .int .i64 fu, .bool false] 43)).cell? ⟨w.heap.size, 1, none⟩ = some (.slice A' n c') := B1.cell (j := 1) rfl
    have k3 : (w.alloc (.cells #[.slice A ns c, .slice A' n c', .int .i64 fu, .bool false] 43)).cell? ⟨w.heap.size, 3, none⟩ = some (.bool false) := B1.cell (j := 3) rfl
    have HS1 := Lib.hid (h1.alloc (Nat.le_refl _) (.cells #[.slice A ns c, .slice A' n c', .int .i64 fu, .bool false] 43))
    have HS2 := Lib.hid (h2.alloc (Nat.le_refl _) (.cells #[.slice A ns c, .slice A' n c', .int .i64 fu, .bool false] 43))
    clear h1 h2 L1 B1 HH1 HH2
    by_cases a0 : a < 0
    · have d0 : decide (a < 0) = true := decide_eq_true a0
      have HR : Hid (dread D a = ([], 1)) := Lib.hid (by unfold dread dhas; rw [hd]; simp; omega)
      clear hd hn hns hfu
      go_enter Try.func47, Try.ntmps47
      go_wp2_with fail
      exact bodyPost_ret (results_tmp2 rfl _ _ _) rfl ⟨by rw [HR.out]; rfl, HL1.out⟩
    · have d0 : decide (a < 0) = false := decide_eq_false a0
      by_cases a1 : (ns : Int) ≤ a
      · have d1 : decide ((ns : Int) ≤ a) = true := decide_eq_true a1
        have HR : Hid (dread D a = ([], 1)) := Lib.hid (by unfold dread dhas; rw [hd]; simp; omega)
        clear hd hn hns hfu
        go_enter Try.func47, Try.ntmps47
        go_wp2_with fail
        exact bodyPost_ret (results_tmp2 rfl _ _ _) rfl ⟨by rw [HR.out]; rfl, HL1.out⟩
      · have d1 : decide ((ns : Int) ≤ a) = false := decide_eq_false a1
        have HR : Hid (dread D a = if (dlook D a).2 then ([], 16) else ((dlook D a).1.1, 0)) := Lib.hid (by
          unfold dread
          rw [hd, if_neg (by simp), if_pos (by unfold dhas; rw [decide_eq_true_eq]; omega)])
        obtain ⟨e0, rfl⟩ : ∃ e0 : Nat, a = (e0 : Int) := ⟨a.toNat, by omega⟩
        have HE : Hid (e0 < D.s.length) := Lib.hid (by omega)
        have hel : ¬ ns ≤ e0 := by omega
        have HA : Hid (dlk D (e0 : Int) n = dlook D (e0 : Int)) := Lib.hid (by rw [hn]; exact dlk_all _ _)
        clear hd hn hns hfu a0 a1
        go_enter Try.func47, Try.ntmps47
        go_wp2_with fail
        generalize w.alloc (.cells #[.slice A ns c, .slice A' n c', .int .i64 fu, .bool false] 43) = W1 at HS1 HS2 HL1 k0 k1 k3 ⊢
        go_loopw [6] (fun i wr => wr = W1 ∧ ∃ k : Nat, k ≤ n ∧ i = .int .i64 ((k : Int) - 1) ∧ Hid (dlk D (e0 : Int) k = dlook D (e0 : Int))) (fun i _ => (intOf i + 1).toNat)
        case atStart => exact ⟨rfl, n, Nat.le_refl _, by go_num, HA⟩
        case round =>
          obtain ⟨rfl, k, hk, rfl, HK⟩ := hrel
          rcases k with _ | k
          · have d2 : decide ((0 : Int) ≤ ((0 : Nat) : Int) - 1) = false := by decide
            obtain ⟨x, hx⟩ : ∃ x, x = dlook D (e0 : Int) := ⟨_, rfl⟩
            rw [dlk_zero, Int.toNat_natCast, ← hx] at HK
            rw [← hx] at HR
            have hg := stc_get D.s e0 HE.out
            rw [HK.out] at hg
            have hl0 := (List.getElem?_eq_some_iff.1 hg).1
            obtain ⟨b1, o1, e1, hb1, hc1⟩ := HS1.out (by omega)
            subst e1
            have p1 := hc1 e0 hl0
            rw [(List.getElem?_eq_some_iff.1 hg).2] at p1
            clear hg hl0 hc1 hx HK HA HE
            obtain ⟨⟨xb, hxl⟩, bad⟩ := x
            cases bad with
            | true =>
              simp only [if_true] at HR p1
              obtain ⟨sx, hsx⟩ : ∃ sx, sx = str [] := ⟨_, rfl⟩
              rw [← hsx] at p1
              have hq : sx.toList.isEmpty = true := by rw [hsx, str_list]; rfl
              clear hxl hsx
              go_wp2_with fail
              exact bodyPost_ret (results_tmp2 rfl _ _ _) rfl ⟨by rw [HR.out]; rfl, HL1.out⟩
            | false =>
              simp only [Bool.false_eq_true, if_false] at HR p1
              obtain ⟨sx, hsx⟩ : ∃ sx, sx = str xb := ⟨_, rfl⟩
              rw [← hsx] at p1
              have hq : sx.toList.isEmpty = false := by
                rw [hsx, str_list]
                cases xb with
                | nil => simp at hxl
                | cons _ _ => rfl
              have HX := Lib.hid hsx
              clear hxl hsx
              go_wp2_with fail
              exact bodyPost_ret (results_tmp2 rfl _ _ _) rfl ⟨by rw [HR.out]; dsimp only; rw [← HX.out]; rfl, HL1.out⟩
          · have ek : ((k + 1 : Nat) : Int) - 1 = (k : Int) := by omega
            rw [ek]
            have d2 : decide ((0 : Int) ≤ (k : Int)) = true := decide_eq_true (by omega)
            have hkl : k < D.w.length := by rw [← HN.out]; exact hk
            have hkn : ¬ n ≤ k := by omega
            obtain ⟨b2, o2, e2, hb2, hr2⟩ := sees_rw (wtl_len _) HS2.out (by decide : 0 < 2) k hkl
            subst e2
            obtain ⟨x, hx⟩ : ∃ x, x = D.w[k] := ⟨_, rfl⟩
            rw [← hx] at hr2
            have hd1 := dlk_succ D (e0 : Int) k hkl
            rw [← hx, HK.out] at hd1
            obtain ⟨xa, xb⟩ := x
            have p0 : wr.cell? ⟨b2, o2 + k * 2, none⟩ = some (.int .i64 xa) := hr2 0 _ rfl
            have p1 : wr.cell? ⟨b2, o2 + k * 2 + 1, none⟩ = some (.string (str xb.1)) := hr2 1 _ rfl
            dsimp only at hd1
            clear hx hr2 ek HA HK HE
            by_cases hxa : xa = (e0 : Int)
            · subst hxa
              rw [if_pos rfl] at hd1
              rw [hd1] at HR
              simp only [Bool.false_eq_true, if_false] at HR
              clear hd1
              go_wp2_with fail
              exact bodyPost_ret (results_tmp2 rfl _ _ _) rfl ⟨by rw [HR.out]; rfl, HL1.out⟩
            · rw [if_neg hxa] at hd1
              have ne : (xa == (e0 : Int)) = false := by rw [beq_eq_false_iff_ne]; exact hxa
              have HD1 := Lib.hid hd1.symm
              clear hd1 hxa p1
              go_wp2_with fail
              go_roundw
              case rel => exact ⟨by first | rfl | trivial, k, by omega, by go_num, HD1⟩
              case measure => simp [intOf] <;> omega
end Go.Proofs.Ytncbhpopobjaiaa

/- Rows of structs that a call owns: a store of a whole struct into one. -/
namespace Go.Proofs.Ytncbhpopobjaiaa
set_option linter.unusedVariables false
open Go Go.RowKit

theorem heap_set1 {w : World} {g : Nat} {t : TypeId} {cs : List Value} (h : w.heap[g]? = some (.cells cs.toArray t (0, 0))) (j : Nat) (v : Value) : (w.setCell ⟨g, j, none⟩ v).heap[g]? = some (.cells (cs.set j v).toArray t (0, 0)) := by
  have hlt := (Array.getElem?_eq_some_iff.1 h).1
  obtain ⟨h1, h2⟩ := Array.getElem?_eq_some_iff.1 h
  show (w.heap.modify g _)[g]? = _
  rw [Array.getElem?_eq_getElem (by rw [Array.size_modify]; exact hlt), Array.getElem_modify_self, h2]
  simp
theorem heap_sets {t : TypeId} {g : Nat} : ∀ (vs : List Value) (o : Nat) {w : World} {cs : List Value}, w.heap[g]? = some (.cells cs.toArray t (0, 0)) → o + vs.length ≤ cs.length →
    (w.setCells g o vs).heap[g]? = some (.cells (cs.take o ++ vs ++ cs.drop (o + vs.length)).toArray t (0, 0))
  | [], o, w, cs, h, ho => by
    show w.heap[g]? = _
    rw [h]; simp
  | v :: vs, o, w, cs, h, ho => by
    simp only [List.length_cons] at ho
    have h2 := heap_sets vs (o + 1) (heap_set1 h o v) (by simp; omega)
    have e : (cs.set o v).take (o + 1) ++ vs ++ (cs.set o v).drop (o + 1 + vs.length) = cs.take o ++ (v :: vs) ++ cs.drop (o + (v :: vs).length) := by
      rw [List.take_succ_eq_append_getElem (by simp; omega), List.take_set_of_le (Nat.le_refl o), List.getElem_set_self, List.drop_set_of_lt (by omega)]
      simp [Nat.add_comm, Nat.add_left_comm]
    rw [e] at h2
    exact h2
theorem row_sets {α : Type} {f : α → List Value} {sz : Nat} {w : World} {base g n c : Nat} {e : TypeId} {l : List α} (hf : ∀ x ∈ l, (f x).length = sz) (h : w.ownsRow base e sz (.slice (some ⟨g, 0, none⟩) n c) n (rws f l)) (hn : l.length = n)
    (k : Nat) (hk : k < n) (x : α) (hx : (f x).length = sz) :
    (w.setCells g (k * sz) (f x)).ownsRow base e sz (.slice (some ⟨g, 0, none⟩) n c) n (rws f (l.set k x)) ∧ w.there g (k * sz) sz ∧ base ≤ g := by
  obtain ⟨h1, h2 | ⟨g', cap, cur, e1, e2, e3, e4, e5, e6, e7⟩⟩ := h
  · exact absurd h2.1 (by simp)
  · injection e1 with ea eb ec
    injection ea with ea
    injection ea with ea
    subst ea
    subst ec
    have hks : k * sz + sz ≤ n * sz := by rw [← Nat.succ_mul]; exact Nat.mul_le_mul_right _ hk
    have hncs : n * sz ≤ c * sz := Nat.mul_le_mul_right _ e4
    have hcl : cur.toList.length = c * sz := by rw [Array.length_toList]; exact e6
    have hrl := rws_len l hf
    rw [hn] at hrl
    have h3 : w.heap[g]? = some (.cells cur.toList.toArray e (0, 0)) := by rw [e3]
    have h4 := heap_sets (f x) (k * sz) h3 (by rw [hx, hcl]; omega)
    have hB : Blk w g cur.toList := ⟨e, h3⟩
    refine ⟨?_, hB.there _ _ (by rw [hcl]; omega), e2⟩
    have hfs : ∀ y ∈ l.set k x, (f y).length = sz := fun y hy => by
      rcases List.mem_or_eq_of_mem_set hy with h | h
      · exact hf y h
      · rw [h]; exact hx
    have hset : l.set k x = l.take k ++ x :: l.drop (k + 1) := by rw [List.set_eq_take_append_cons_drop, if_pos (by omega)]
    have hcur : cur.toList = rws f l ++ cur.toList.drop (n * sz) := by
      rw [← e7, List.take_append_drop]
    have t1 : cur.toList.take (k * sz) = rws f (l.take k) := by
      rw [hcur, List.take_append_of_le_length (by rw [hrl]; omega), rws_take l k hf]
    have t2 : cur.toList.drop (k * sz + (f x).length) = rws f (l.drop (k + 1)) ++ cur.toList.drop (n * sz) := by
      rw [hx, show k * sz + sz = (k + 1) * sz by rw [Nat.succ_mul]]
      conv => lhs; rw [hcur]
      rw [List.drop_append_of_le_length (by rw [hrl, Nat.succ_mul]; omega), rws_drop l (k + 1) hf]
    refine ⟨by rw [rws_len _ hfs, List.length_set, hn], .inr ⟨g, c, _, rfl, e2, h4, e4, e5, ?_, ?_⟩⟩
    · rw [List.size_toArray, List.length_append, List.length_append, List.length_take, List.length_drop, hcl, hx]
      omega
    · have e9 : (cur.toList.take (k * sz) ++ f x ++ cur.toList.drop (k * sz + (f x).length)) = rws f (l.set k x) ++ cur.toList.drop (n * sz) := by
        rw [t1, t2, hset, rws_append, rws_cons]
        simp only [List.append_assoc]
      rw [List.toList_toArray, e9, List.take_append_of_le_length (by rw [rws_len _ hfs, List.length_set, hn]; exact Nat.le_refl _), List.take_of_length_le (by rw [rws_len _ hfs, List.length_set, hn]; exact Nat.le_refl _)]
end Go.Proofs.Ytncbhpopobjaiaa

/- append onto a new slice that has no room: it leaves a later world. -/
namespace Go.Proofs.Ytncbhpopobjaiaa
set_option linter.unusedVariables false
open Go Go.RowKit

theorem app_fresh {P : Program} (w : World) (B : Nat) (t ty e : TypeId) (i : TypeInfo) (z : Value) (size bytes : Nat) (ht : P.underlying t = some (.slice e)) (hi : P.info? e = some i) (hz : i.zero = some z)
    (hsize : i.size = size) (hby : i.bytes = bytes) (hzs : z.cells.size = size) (hpos : 0 < size) (b : Nat) (hown : w.ownsRow B e size (.slice (some ⟨b, 0, none⟩) 0 0) 0 [])
    (ad : Addr) (m c : Nat) (news : List Value) (hl : news.length = m * size) (hs : Sees w w.heap.size (some ad) news) (h1 : ∀ u ∈ news, u.oneCell' = true)
    (h63 : m ≤ maxLen) (hbytes : m * bytes ≤ 140737488355328) (hbase : B ≤ w.heap.size) :
    ∃ v' w', (Builtin.append_ #[t, t] ty #[.slice (some ⟨b, 0, none⟩) 0 0, .slice (some ad) m c]).run P w = .ok v' w' ∧ Le w w' ∧ w'.ownsRow B e size v' m news := by
  have hnews : ∀ j u, news[j]? = some u → w.cell? (ad.add j) = some u := fun j u hj => by
    have hlt := (List.getElem?_eq_some_iff.1 hj).1
    obtain ⟨b', o', e', _, hc⟩ := hs (by omega)
    cases e'
    rw [Addr.add_lit]
    have := hc j hlt
    rw [(List.getElem?_eq_some_iff.1 hj).2] at this
    exact this
  by_cases hm : m = 0
  · subst hm
    have hn0 : news = [] := List.length_eq_zero_iff.1 (by simpa using hl)
    subst hn0
    subst hsize
    refine ⟨_, _, run_append_room_cells (P := P) (w := w) t ty e i ht hi b 0 0 0 ad 0 c [] (by simp) (by simp) (by simp) (by simp) (by simp) (by simp), Le.refl _, hown⟩
  · obtain ⟨v', w', hrun, hr, hg⟩ := run_append_arg_grows (P := P) (w := w) t ty e i z size bytes ht hi hz hsize hby hzs hpos ⟨b, 0, none⟩ 0 0 [] (by simp) (by simp) ad m c news hl hnews (by omega) (by omega) (by simpa using hbytes)
    refine ⟨v', w', hrun, ⟨hg.os, hg.tape, hg.output, hg.size, fun k hk => hg.block k hk (by simp)⟩, ?_⟩
    have := row_lower hr hbase
    simpa using this
end Go.Proofs.Ytncbhpopobjaiaa
