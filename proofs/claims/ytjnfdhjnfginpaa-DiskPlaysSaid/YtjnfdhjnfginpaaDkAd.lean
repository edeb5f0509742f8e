/- DiskPlays: the law's walk. -/
import Derived.Test.YtjnfdhjnfginpaaDkAc
namespace Go.Proofs.Ytjnfdhjnfginpaa
set_option linter.unusedVariables false
set_option linter.unusedSimpArgs false
open Go Go.RowKit

theorem info_dact : (Try.prog.info? 35).map (·.size) = some 5 := by kernel_rfl
set_option maxRecDepth 100000 in
set_option maxHeartbeats 6400000 in
theorem walk_plays (n : Int) (A0 : Option Addr) (n0 c0 : Nat) (l : List Ax) (w : World) (h0 : l.length = n0) (hn0 : n0 ≤ c0) (hm0 : c0 ≤ maxLen) (s0 : Sees w w.heap.size A0 (rws axc l)) (ok : ∀ x ∈ l, okAk w x) :
    Calls Try.prog 3 #[.int .i64 n, .slice A0 n0 c0] w fun e w' => e = .returned (.bool true) ∧ Below w.heap.size w w' := by
  by_cases z1 : n < 1
  · have d1 : decide (1 ≤ n) = false := decide_eq_false (by omega)
    have d2 : decide (n < 1) = true := decide_eq_true z1
    have HN := Lib.hid (new_low n w z1)
    clear z1 s0 ok
    go_enter Try.func3, Try.ntmps3
    go_wp2_with fail
    refine HN.out.mono ?_
    rintro e wa ⟨rfl, rfl⟩
    go_wp2_with fail
    refine (awake_any _).mono ?_
    rintro e wb ⟨rfl, hbb⟩
    have HLB := Lib.hid hbb
    clear hbb
    go_wp2_with fail
    go_ret
    exact ⟨rfl, HLB.out⟩
  · by_cases z2 : 2048 < n
    · have d1 : decide (1 ≤ n) = true := decide_eq_true (by omega)
      have d2 : decide (n < 1) = false := decide_eq_false z1
      have d3 : decide (n ≤ 2048) = false := decide_eq_false (by omega)
      have d4 : decide (8 < n) = true := decide_eq_true (by omega)
      have HN := Lib.hid (new_high n w z2)
      clear z1 z2 s0 ok
      go_enter Try.func3, Try.ntmps3
      go_wp2_with fail
      refine HN.out.mono ?_
      rintro e wa ⟨rfl, rfl⟩
      go_wp2_with fail
      refine (awake_any _).mono ?_
      rintro e wb ⟨rfl, hbb⟩
      have HLB := Lib.hid hbb
      clear hbb
      go_wp2_with fail
      go_ret
      exact ⟨rfl, HLB.out⟩
    · obtain ⟨ns, rfl⟩ : ∃ ns : Nat, n = (ns : Int) := ⟨n.toNat, by omega⟩
      have d1 : decide ((1 : Int) ≤ (ns : Int)) = true := decide_eq_true (by omega)
      have d2 : decide ((ns : Int) < 1) = false := decide_eq_false z1
      have d3 : decide ((ns : Int) ≤ 2048) = true := decide_eq_true (by omega)
      have HN := Lib.hid (new_any ns w (by omega) (by omega))
      by_cases z3 : 8 < ns
      · have d4 : decide ((8 : Int) < (ns : Int)) = true := decide_eq_true (by omega)
        clear z1 z2 z3 s0 ok
        go_enter Try.func3, Try.ntmps3
        go_wp2_with fail
        refine HN.out.mono ?_
        rintro e wa ⟨rfl, _, hba⟩
        have HBA := Lib.hid hba
        clear hba
        go_wp2_with fail
        refine (awake_any _).mono ?_
        rintro e wb ⟨rfl, hbb⟩
        have HLB := Lib.hid (HBA.out.trans (hbb.mono HBA.out.size))
        clear hbb
        go_wp2_with fail
        go_ret
        exact ⟨rfl, HLB.out⟩
      · have d4 : decide ((8 : Int) < (ns : Int)) = false := decide_eq_false (by omega)
        have hu := Try.underlying29
        have hua := Try.underlying35
        have HNZ := Lib.hid (show ns ≤ 8 by omega)
        have HRN : Hid (∀ wx, Calls Try.prog 7 #[.int .i64 (ns : Int)] wx fun e w' => ∃ A c, e = .returned (.agg #[.slice A ns c, .slice none 0 0, .int .i64 (-1), .bool false]) ∧ w'.ownsRow wx.heap.size 9 1 (.slice A ns c) ns (stc (dnew ns).s) ∧ Below wx.heap.size wx w') := Lib.hid (fun wx => rnew_any ns wx (by omega))
        have HS0 := Lib.hid s0
        have HOK := Lib.hid ok
        have HL0 := Lib.hid h0
        have HM0 := Lib.hid hm0
        obtain ⟨s00, hs00⟩ : ∃ s00, s00 = str (fil 64 0) := ⟨_, rfl⟩
        have HSE0 : Hid (∀ wx : World, Calls Try.prog 12 #[.int .u8 0, .int .i64 0] wx fun e w' => e = .returned (.string s00) ∧ Below wx.heap.size wx w') := Lib.hid (fun wx => by rw [hs00]; exact sect_any 0 0 wx)
        clear z1 z2 z3 s0 ok h0 hm0 hs00
        go_enter Try.func3, Try.ntmps3
        go_wp2_with fail
        refine HN.out.mono ?_
        rintro e w1 ⟨rfl, hd1, hba⟩
        have HD1 := Lib.hid hd1
        have HBA := Lib.hid hba
        clear hba hd1 HN
        go_wp2_with fail
        refine (HRN.out w1).mono ?_
        rintro e w2 ⟨A1, c1, rfl, hr2, hb2⟩
        have hboth := both_new HD1.out hr2 HBA.out hb2
        have TH := (Blk.new w2 [.slice none 0 0, .slice none 0 0, .int .i64 0, .bool false] 29).there 0 4 (by simp)
        obtain ⟨hb3, hl3⟩ := hboth
        have HB3 := Lib.hid hb3
        have HL3 := Lib.hid hl3
        clear hr2 hb2 HD1 HBA HRN hb3 hl3
        go_wp2_with (first
          | (refine wpList_store_mid rfl 29 (.tmp 6) (.tmp 31) rfl w2.heap.size 0 #[.slice A1 ns c1, .slice none 0 0, .int .i64 (-1), .bool false] rfl rfl TH info_rd (by simp [Value.oneCell']) ?_
             simp only [Act.put, List.setIfInBounds_toArray, List.set_cons_zero, List.set_cons_succ])
          | fail)
        go_loopw [5, 7] (fun d i wr => ∃ k : Nat, k ≤ 100 ∧ i = .int .i64 (k : Int) ∧ ∃ g b r q p D, d = .pointer (some ⟨g, 0, none⟩) ∧ Hid (Both wr w.heap.size g b r w2.heap.size q p D) ∧ Hid (DIn D ∧ (-9223372036854775808 ≤ D.fuse ∧ D.fuse ≤ 9223372036854775807) ∧ D.w.length ≤ k ∧ D.s.length = ns) ∧ Hid (Below w.heap.size w wr)) (fun d i _ => (100 - intOf i).toNat)
        case atStart => exact ⟨0, by omega, rfl, _, _, _, _, _, _, rfl, HB3, Lib.hid ⟨DIn.none rfl, by simp [dnew], by simp [dnew], by simp [dnew]⟩, HL3⟩
        case round =>
          clear HB3 HL3 TH
          obtain ⟨k, hk, rfl, g, b, r, q, p, D, rfl, HB, HD, HLE⟩ := hrel
          by_cases y1 : k < n0
          · have y1i : decide ((k : Int) < (n0 : Int)) = true := decide_eq_true (by omega)
            by_cases y2 : k < 100
            · have y2i : decide ((k : Int) < 100) = true := decide_eq_true (by omega)
              have hkl : k < l.length := by have := HL0.out; omega
              have hok := HOK.out l[k] (List.getElem_mem hkl)
              obtain ⟨b1, o1, rfl, hb1, hrg⟩ := sees_rw (f := axc) (sz := 5) (ax_len l) (HS0.out.below HLE.out) (by decide) k hkl
              have HRA : Hid (∀ W, Below w.heap.size w W → W.rangeAt b1 (o1 + k * 5) (axc l[k])) := Lib.hid (fun W hW => by
                obtain ⟨b', o', e', _, hr'⟩ := sees_rw (f := axc) (sz := 5) (ax_len l) (HS0.out.below hW) (by decide) k hkl
                cases e'
                exact hr')
              generalize hx : l[k] = x at hok hrg HRA
              obtain ⟨xk, xa, xn, xc, xv⟩ := x
              obtain ⟨⟨ok1, ok2, ok3⟩, keep, A5, n5, c5, hv5, hn5, hm5, hl5, hs5⟩ := hok
              dsimp only at ok1 ok2 ok3 hv5
              subst hv5
              have hnl : ¬ n0 ≤ k := by omega
              have hrg : wr.rangeAt b1 (o1 + k * 5) [.int .i64 xk, .int .i64 xa, .int .i64 xn, .int .u8 (xc.toNat : Int), .slice A5 n5 c5] := hrg
              have HLw := HLE.out.size
              have HDO := Lib.hid (does_any w.heap.size g b r w2.heap.size q p D xk xa xn xc A5 n5 c5 keep wr HB.out HD.out.1 HD.out.2.1 (by have := HD.out.2.2.1; omega) (by have := HD.out.2.2.2; have := HNZ.out; omega) HLw hl5 (by omega) (fun W hW => (hs5.below (HLE.out.trans hW)).more (Nat.le_trans HLw hW.size)))
              have HDK := Lib.hid (dact_ok D xk xa xn xc keep HD.out.1 HD.out.2.1 ok3)
              generalize hD1 : dact D xk xa xn xc keep = D1 at HDO HDK
              have HRG : Hid (∀ W, Below w.heap.size w W → W.cell? ⟨b1, o1 + k * 5, none⟩ = some (.int .i64 xk) ∧ W.cell? ⟨b1, o1 + k * 5 + 3, none⟩ = some (.int .u8 (xc.toNat : Int))) := Lib.hid (fun W hW => ⟨HRA.out W hW 0 _ rfl, HRA.out W hW 3 _ rfl⟩)
              clear HRA
              have HB1L := Lib.hid hb1
              clear HB hx hD1 ok1 ok2 ok3 hs5 hl5 hn5 hm5 hb1
              go_wp2_with (first
                | (refine wpList_load_mid rfl 35 (.tmp 45) rfl b1 (o1 + k * 5) rfl [.int .i64 xk, .int .i64 xa, .int .i64 xn, .int .u8 (xc.toNat : Int), .slice A5 n5 c5] _ hrg hua rfl info_dact ?_
                   simp only [Act.put, List.setIfInBounds_toArray, List.set_cons_zero, List.set_cons_succ])
                | fail)
              refine HDO.out.mono ?_
              rintro e w3 ⟨rfl, r3, q3, p3, hB3, hb3⟩
              have HL3 := Lib.hid (HLE.out.trans hb3)
              obtain ⟨A6, c6, A7, c7, RB, mr1, mr2⟩ := hB3.rf.hand
              have HSM := Lib.hid (same_any w.heap.size g b r3 D1 A6 A7 c6 c7 w3 hB3.dk mr1 mr2 (by have := HDK.out.2.2.2; have := HD.out.2.2.2; have := HNZ.out; omega) (by have := HDK.out.2.2.1; have := HD.out.2.2.1; omega))
              have HB3 := Lib.hid hB3
              have HD3 : Hid (DIn D1 ∧ (-9223372036854775808 ≤ D1.fuse ∧ D1.fuse ≤ 9223372036854775807) ∧ D1.w.length ≤ k + 1 ∧ D1.s.length = ns) := Lib.hid ⟨HDK.out.1, HDK.out.2.1, Nat.le_trans HDK.out.2.2.1 (Nat.succ_le_succ HD.out.2.2.1), HDK.out.2.2.2.trans HD.out.2.2.2⟩
              obtain ⟨ls, hls⟩ : ∃ ls, ls = D1.s.length := ⟨_, rfl⟩
              obtain ⟨lw, hlw⟩ : ∃ lw, lw = D1.w.length := ⟨_, rfl⟩
              obtain ⟨fu, hfu⟩ : ∃ fu, fu = D1.fuse := ⟨_, rfl⟩
              obtain ⟨dd, hdd⟩ : ∃ dd, dd = D1.dead := ⟨_, rfl⟩
              rw [← hls, ← hlw, ← hfu, ← hdd] at RB HSM
              clear hls hlw hfu hdd mr1 mr2 hB3 hb3 HDO HDK HLE HD hrg
              go_wp2_with (first
                | (refine wpList_load_g (by rfl) 29 (.tmp 6) rfl w2.heap.size 0 rfl [.slice A6 ls c6, .slice A7 lw c7, .int .i64 fu, .bool dd] _ RB hu rfl info_rd ?_
                   simp only [Act.put, List.setIfInBounds_toArray, List.set_cons_zero, List.set_cons_succ])
                | fail)
              refine HSM.out.mono ?_
              rintro e w4 ⟨rfl, hb4⟩
              have HB4 := Lib.hid (HB3.out.later hb4)
              have HL4 := Lib.hid (HL3.out.trans (hb4.mono HL3.out.size))
              clear hb4 HSM HB3 HL3 RB
              have pk := (HRG.out w4 HL4.out).1
              by_cases hk3 : 3 < xk
              · have k3 : decide (3 < xk) = true := decide_eq_true hk3
                have HCL := Lib.hid (clone_any w.heap.size g b r3 D1 w4 HB4.out.dk (by have := HD3.out.2.2.2; have := HNZ.out; omega) (by have := HD3.out.2.2.1; omega))
                go_wp2_with fail
                refine HCL.out.mono ?_
                rintro e w5 ⟨g', b', r', rfl, hE5, hb5⟩
                have HE5 := Lib.hid hE5
                have HB5 := Lib.hid hb5
                have HL5 := Lib.hid (HL4.out.trans (hb5.mono HL4.out.size))
                obtain ⟨s1, hs1⟩ : ∃ s1, s1 = str (fil 64 xc) := ⟨_, rfl⟩
                have HSE : Hid (∀ wx : World, Calls Try.prog 12 #[.int .u8 (xc.toNat : Int), .int .i64 0] wx fun e w' => e = .returned (.string s1) ∧ Below wx.heap.size wx w') := Lib.hid (fun wx => by rw [hs1]; exact sect_any xc 0 wx)
                have HWR : Hid (∀ wx, DkAt wx w.heap.size g b r3 D1 → w.heap.size ≤ wx.heap.size → Calls Try.prog 11 #[.pointer (some ⟨g, 0, none⟩), .int .i64 0, .string s1] wx fun e w' => e = .returned (.int .i64 (dwrite D1 0 (fil 64 xc)).2) ∧ ∃ r', DkAt w' w.heap.size g b r' (dwrite D1 0 (fil 64 xc)).1 ∧ Turn3 wx w' g b r3 ∧ RowN wx r3 r') := Lib.hid (fun wx hd hz => by rw [hs1]; exact write_any w.heap.size g b r3 D1 0 (fil 64 xc) wx hd HD3.out.2.1 (by rw [fil_len]; unfold maxLen; omega) (by have := HD3.out.2.2.1; omega) hz)
                have HDW : Hid (DIn (dwrite D1 0 (fil 64 xc)).1 ∧ (-9223372036854775808 ≤ (dwrite D1 0 (fil 64 xc)).1.fuse ∧ (dwrite D1 0 (fil 64 xc)).1.fuse ≤ 9223372036854775807) ∧ (dwrite D1 0 (fil 64 xc)).1.w.length ≤ 65536) := by
                  have := dact_ok D1 0 0 0 xc [] HD3.out.1 HD3.out.2.1 (by omega)
                  unfold dact at this
                  rw [if_pos rfl, if_neg (by omega)] at this
                  exact Lib.hid ⟨this.1, this.2.1, by have := this.2.2.1; have := HD3.out.2.2.1; omega⟩
                generalize dwrite D1 0 (fil 64 xc) = D2 at HWR HDW
                obtain ⟨D2, er2⟩ := D2
                dsimp only at HWR HDW
                have pc := (HRG.out w5 HL5.out).2
                clear hE5 hb5 hs1 pk HCL
                go_wp2_with fail
                refine (HSE.out w5).mono ?_
                rintro e w6 ⟨rfl, hb6⟩
                have HB6 := Lib.hid hb6
                have H46 := Lib.hid (HB5.out.trans (hb6.mono HB5.out.size))
                have HL6 := Lib.hid (HL5.out.trans (hb6.mono HL5.out.size))
                clear hb6 pc
                go_wp2_with fail
                refine (HWR.out w6 (HB4.out.dk.later H46.out) HL6.out.size).mono ?_
                rintro e w7 ⟨rfl, r7, hd7, T7, R7⟩
                have HD7 := Lib.hid hd7
                have T7 := Lib.hid T7
                have R7 := Lib.hid R7
                have HZ7 := Lib.hid (Nat.le_trans HL6.out.size T7.out.size)
                have HSY := Lib.hid (sync_any w.heap.size g b r7 D2 w7 hd7 HDW.out.1 HDW.out.2.1 HDW.out.2.2 HZ7.out)
                clear hd7
                go_wp2_with fail
                refine HSY.out.mono ?_
                rintro e w8 ⟨rfl, r8, hd8, T8, R8⟩
                have T68 := T7.out.trans T8 R7.out
                obtain ⟨hB8, hb8⟩ := both_clone HB4.out HE5.out HB5.out HB6.out T68 HL4.out.size
                have HL8 := Lib.hid (HL4.out.trans hb8)
                obtain ⟨A6, c6, A7, c7, RB, mr1, mr2⟩ := hB8.rf.hand
                have HSM := Lib.hid (same_any w.heap.size g' b' r' D1 A6 A7 c6 c7 w8 hB8.dk mr1 mr2 (by have := HD3.out.2.2.2; have := HNZ.out; omega) (by have := HD3.out.2.2.1; omega))
                have HB8 := Lib.hid hB8
                obtain ⟨ls, hls⟩ : ∃ ls, ls = D1.s.length := ⟨_, rfl⟩
                obtain ⟨lw, hlw⟩ : ∃ lw, lw = D1.w.length := ⟨_, rfl⟩
                obtain ⟨fu, hfu⟩ : ∃ fu, fu = D1.fuse := ⟨_, rfl⟩
                obtain ⟨dd, hdd⟩ : ∃ dd, dd = D1.dead := ⟨_, rfl⟩
                rw [← hls, ← hlw, ← hfu, ← hdd] at RB HSM
                clear hls hlw hfu hdd mr1 mr2 hB8 hb8 hd8 T8 R8 T68 T7 R7 HZ7 HSY HD7 HE5 HB5 HB6 H46 HL5 HL6 HB4 HL4 HWR HSE HDW HRG
                go_wp2_with (first
                  | (refine wpList_load_mid rfl 29 (.tmp 6) rfl w2.heap.size 0 rfl [.slice A6 ls c6, .slice A7 lw c7, .int .i64 fu, .bool dd] _ RB hu rfl info_rd ?_
                     simp only [Act.put, List.setIfInBounds_toArray, List.set_cons_zero, List.set_cons_succ])
                  | fail)
                refine HSM.out.mono ?_
                rintro e w9 ⟨rfl, hb9⟩
                have HB9 := Lib.hid (HB8.out.later hb9)
                have HL9 := Lib.hid (HL8.out.trans (hb9.mono HL8.out.size))
                clear hb9 HSM HB8 HL8 RB
                go_wp2_with fail
                go_roundw
                case rel => exact ⟨k + 1, by omega, by go_num, g', b', r', q3, p3, D1, rfl, HB9, HD3, HL9⟩
                case measure => simp [intOf]; omega
              · have k3 : decide (3 < xk) = false := decide_eq_false hk3
                clear HRG
                go_wp2_with fail
                go_roundw
                case rel => exact ⟨k + 1, by omega, by go_num, g, b, r3, q3, p3, D1, rfl, HB4, HD3, HL4⟩
                case measure => simp [intOf]; omega
            · have y2i : decide ((k : Int) < 100) = false := decide_eq_false (by omega)
              clear HB HD
              go_wp2_with fail
              refine (fuse_nil 1 _).mono ?_
              rintro e wa ⟨rfl, rfl⟩
              go_wp2_with fail
              refine (crash_nil _).mono ?_
              rintro e wa ⟨rfl, rfl⟩
              go_wp2_with fail
              refine (read_nil 0 _).mono ?_
              rintro e wa ⟨rfl, rfl⟩
              go_wp2_with fail
              refine (HSE0.out _).mono ?_
              rintro e w9 ⟨rfl, hb9⟩
              have HL9 := Lib.hid (HLE.out.trans (hb9.mono HLE.out.size))
              clear hb9
              go_wp2_with fail
              refine (write_nil 0 s00 _).mono ?_
              rintro e wa ⟨rfl, rfl⟩
              go_wp2_with fail
              refine (sync_nil _).mono ?_
              rintro e wa ⟨rfl, rfl⟩
              go_wp2_with fail
              refine (size_nil _).mono ?_
              rintro e wa ⟨rfl, rfl⟩
              go_wp2_with fail
              refine (dead_nil _).mono ?_
              rintro e wa ⟨rfl, rfl⟩
              go_wp2_with fail
              refine (waiting_nil _).mono ?_
              rintro e wa ⟨rfl, rfl⟩
              go_wp2_with fail
              refine (clone_nil _).mono ?_
              rintro e wa ⟨rfl, rfl⟩
              go_wp2_with fail
              refine (awake_any _).mono ?_
              rintro e wb ⟨rfl, hbb⟩
              have HLB := Lib.hid (HL9.out.trans (hbb.mono HL9.out.size))
              clear hbb
              go_wp2_with fail
              go_ret
              exact ⟨rfl, HLB.out⟩
          · have y1i : decide ((k : Int) < (n0 : Int)) = false := decide_eq_false (by omega)
            clear HB HD
            go_wp2_with fail
            refine (fuse_nil 1 _).mono ?_
            rintro e wa ⟨rfl, rfl⟩
            go_wp2_with fail
            refine (crash_nil _).mono ?_
            rintro e wa ⟨rfl, rfl⟩
            go_wp2_with fail
            refine (read_nil 0 _).mono ?_
            rintro e wa ⟨rfl, rfl⟩
            go_wp2_with fail
            refine (HSE0.out _).mono ?_
            rintro e w9 ⟨rfl, hb9⟩
            have HL9 := Lib.hid (HLE.out.trans (hb9.mono HLE.out.size))
            clear hb9
            go_wp2_with fail
            refine (write_nil 0 s00 _).mono ?_
            rintro e wa ⟨rfl, rfl⟩
            go_wp2_with fail
            refine (sync_nil _).mono ?_
            rintro e wa ⟨rfl, rfl⟩
            go_wp2_with fail
            refine (size_nil _).mono ?_
            rintro e wa ⟨rfl, rfl⟩
            go_wp2_with fail
            refine (dead_nil _).mono ?_
            rintro e wa ⟨rfl, rfl⟩
            go_wp2_with fail
            refine (waiting_nil _).mono ?_
            rintro e wa ⟨rfl, rfl⟩
            go_wp2_with fail
            refine (clone_nil _).mono ?_
            rintro e wa ⟨rfl, rfl⟩
            go_wp2_with fail
            refine (awake_any _).mono ?_
            rintro e wb ⟨rfl, hbb⟩
            have HLB := Lib.hid (HL9.out.trans (hbb.mono HL9.out.size))
            clear hbb
            go_wp2_with fail
            go_ret
            exact ⟨rfl, HLB.out⟩
end Go.Proofs.Ytjnfdhjnfginpaa
