/- Roots: RootPlays' walk. -/
import Derived.Test.YtncbhpopobjaiaaR15
namespace Go.Proofs.Ytncbhpopobjaiaa
set_option linter.unusedVariables false
set_option linter.unusedSimpArgs false
open Go Go.RowKit SumM OctM

set_option maxRecDepth 100000 in
theorem load_nil (w : World) : Calls Try.prog 24 #[.pointer none] w fun e w' => e = .returned (.tuple #[.agg #[.int .i64 0, .int .i64 0, .int .i64 0], .int .i64 14]) ∧ Below w.heap.size w w' := by
  have hu := Try.underlying25
  have B1 := Blk.new w [.int .i64 0, .int .i64 0, .int .i64 0] 25
  have TH := B1.there 0 3 (by simp)
  have HBZ : Hid (Blk ((w.alloc (.cells #[.int .i64 0, .int .i64 0, .int .i64 0] 25)).setCells w.heap.size 0 [.int .i64 0, .int .i64 0, .int .i64 0]) w.heap.size [.int .i64 0, .int .i64 0, .int .i64 0]) := Lib.hid (B1.sets [.int .i64 0, .int .i64 0, .int .i64 0] 0 (by simp))
  have HLZ := Lib.hid (below_sets (Nat.le_refl w.heap.size) [.int .i64 0, .int .i64 0, .int .i64 0] 0 ((Below.refl w.heap.size w).alloc (Nat.le_refl _) (.cells #[.int .i64 0, .int .i64 0, .int .i64 0] 25)))
  clear B1
  go_enter Try.func24, Try.ntmps24
  go_wp2_with (first
    | (refine wpList_store_mid rfl 25 (.tmp 2) (.tmp 12) rfl w.heap.size 0 #[.int .i64 0, .int .i64 0, .int .i64 0] rfl rfl TH info_rtto (by simp [Value.oneCell']) ?_
       simp only [Act.put, List.setIfInBounds_toArray, List.set_cons_zero, List.set_cons_succ])
    | fail)
  exact bodyPost_ret (v := .tuple #[.agg #[.int .i64 0, .int .i64 0, .int .i64 0], .int .i64 14]) (results_rows_tmp rfl _ _ w.heap.size [.int .i64 0, .int .i64 0, .int .i64 0] _ (.int .i64 14) rfl rfl HBZ.out hu rfl info_rtto) rfl ⟨rfl, HLZ.out⟩
set_option maxRecDepth 100000 in
theorem store_nil (x : Rt) (w : World) : Calls Try.prog 17 #[.pointer none, .agg (rtc x).toArray] w fun e w' => e = .returned (.int .i64 14) ∧ Below w.heap.size w w' := by
  obtain ⟨a, b, c⟩ := x
  show Calls Try.prog 17 #[.pointer none, .agg #[.int .i64 a, .int .i64 b, .int .i64 c]] w _
  have HL := Lib.hid ((Below.refl w.heap.size w).alloc (Nat.le_refl _) (.cells #[.int .i64 a, .int .i64 b, .int .i64 c] 25))
  go_enter Try.func17, Try.ntmps17
  go_wp2_with fail
  go_ret
  exact ⟨rfl, HL.out⟩
theorem info_ra : (Try.prog.info? 47).map (·.size) = some 7 := by kernel_rfl
theorem exec_remk3 {o : Oper} {a : Act} {w : World} (x y : Operand) (u : TypeId) (ho : o.op = .binOp .rem 3 x y u) (z oc : Int) (hx : a.eval x = .int .i64 z) (hy : a.eval y = .int .i64 3) (t1 : Int.tmod z 3 = oc) : (execOp a.eval o).run Try.prog w = .ok (.value (.int .i64 oc)) w := exec_rem3 x y u ho z oc hx hy t1
set_option maxRecDepth 100000 in
set_option maxHeartbeats 6400000 in
theorem walk_rplays (sz : Int) (hsz : 0 ≤ sz ∧ sz ≤ 255) (A0 : Option Addr) (n0 c0 : Nat) (l : List Ra) (w : World) (h0 : l.length = n0) (hn0 : n0 ≤ c0) (hm0 : c0 ≤ maxLen) (s0 : Sees w w.heap.size A0 (rws rac l)) (ok : ∀ x ∈ l, okRa w x) :
    Calls Try.prog 4 #[.int .u8 sz, .slice A0 n0 c0] w fun e w' => e = .returned (.bool true) ∧ Below w.heap.size w w' := by
  have hu := Try.underlying25
  have hur := Try.underlying23
  have hud := Try.underlying43
  have hua := Try.underlying47
  obtain ⟨m3, hm3⟩ : ∃ m3, m3 = sz % 3 := ⟨_, rfl⟩
  have hb3 : 0 ≤ m3 ∧ m3 < 3 := by rw [hm3]; exact ⟨Int.emod_nonneg _ (by decide), Int.emod_lt_of_pos _ (by decide)⟩
  have HT3 : Hid (Int.tmod sz 3 = m3) := Lib.hid (by rw [hm3]; exact Int.tmod_eq_emod_of_nonneg hsz.1)
  obtain ⟨n, hn⟩ : ∃ n : Nat, (1 : Int) + m3 = (n : Int) := ⟨(1 + m3).toNat, by omega⟩
  have HNB := Lib.hid (show 1 ≤ n ∧ n ≤ 3 by omega)
  have HN := Lib.hid (new_any n w HNB.out.1 (by have := HNB.out; omega))
  have HRN : Hid (∀ wx, Calls Try.prog 16 #[.int .i64 (n : Int)] wx fun e w' => ∃ A c, e = .returned (.agg #[.slice A n c, .slice none 0 0, .int .i64 (-1), .bool false]) ∧ w'.ownsRow wx.heap.size 9 1 (.slice A n c) n (stc (dnew n).s) ∧ Below wx.heap.size wx w') := Lib.hid (fun wx => rnew_any n wx (by have := HNB.out; omega))
  have HSEE := Lib.hid s0
  have HOK := Lib.hid ok
  have HLEN := Lib.hid h0
  have hszi : IntKind.i64.wrap sz = sz := by rw [IntKind.wrap_i64]; try omega
  clear hm3 s0 ok h0 hm0
  go_enter Try.func4, Try.ntmps4
  go_wp2_with (first
    | (refine wpList_exec (by rfl) (.int .i64 m3) (exec_remk3 (.tmp 17) (.const (.int .i64 3)) _ rfl sz m3 rfl rfl HT3.out) ?_
       simp only [Act.put, List.setIfInBounds_toArray, List.set_cons_zero, List.set_cons_succ])
    | fail)
  refine HN.out.mono ?_
  rintro e w1 ⟨rfl, hd1, hba⟩
  have HD1 := Lib.hid hd1
  have HBA := Lib.hid hba
  clear hba hd1 HN
  go_wp2_with fail
  refine (HRN.out w1).mono ?_
  rintro e w2 ⟨A1, c1, rfl, hr2, hb2⟩
  have hboth := both_new HD1.out hr2 HBA.out hb2
  have TH := (Blk.new w2 [.slice none 0 0, .slice none 0 0, .int .i64 0, .bool false] 43).there 0 4 (by simp)
  obtain ⟨hb3', hl3⟩ := hboth
  obtain ⟨W3, hW3⟩ : ∃ W3, W3 = (w2.alloc (.cells #[.slice none 0 0, .slice none 0 0, .int .i64 0, .bool false] 43)).setCells w2.heap.size 0 [.slice A1 n c1, .slice none 0 0, .int .i64 (-1), .bool false] := ⟨_, rfl⟩
  rw [← hW3] at hb3' hl3
  have HW3 := Lib.hid hW3
  have HB3 := Lib.hid hb3'
  have HL3 := Lib.hid hl3
  clear hr2 hb2 HD1 HBA HRN hb3' hl3 hW3
  go_wp2_with (first
    | (have TX1 := TH
       refine wpList_store_mid rfl 43 (.tmp 7) (.tmp 23) rfl w2.heap.size 0 #[.slice A1 n c1, .slice none 0 0, .int .i64 (-1), .bool false] rfl rfl TX1 info_rd (by simp [Value.oneCell']) ?_
       simp only [Act.put, List.setIfInBounds_toArray, List.set_cons_zero, List.set_cons_succ]
       rw [← HW3.out]
       clear TH TX1 HW3)
    | fail)
  go_loopw [8] (fun i wr => ∃ k : Nat, k ≤ 60 ∧ i = .int .i64 (k : Int) ∧ ∃ r q p D, Hid (Both wr w.heap.size (w.heap.size + 1) w.heap.size r w2.heap.size q p D) ∧ Hid (DIn D ∧ (-9223372036854775808 ≤ D.fuse ∧ D.fuse ≤ 9223372036854775807) ∧ D.w.length ≤ k ∧ D.s.length = n) ∧ Hid (Below w.heap.size w wr)) (fun i _ => (60 - intOf i).toNat)
  case atStart => exact ⟨0, by omega, rfl, _, _, _, _, HB3, Lib.hid ⟨DIn.none rfl, by simp [dnew], by simp [dnew], by simp [dnew]⟩, HL3⟩
  case round =>
    clear HB3 HL3
    obtain ⟨k, hk, rfl, r, q, p, D, HB, HD, HL⟩ := hrel
    by_cases y1 : k < n0
    · have y1i : decide ((k : Int) < (n0 : Int)) = true := decide_eq_true (by omega)
      by_cases y2 : k < 60
      · have y2i : decide ((k : Int) < 60) = true := decide_eq_true (by omega)
        have hkl : k < l.length := by have := HLEN.out; omega
        have hok := HOK.out l[k] (List.getElem_mem hkl)
        obtain ⟨b1, o1, rfl, hb1, hrg⟩ := sees_rw (f := rac) (sz := 7) (ra_len l) (HSEE.out.below HL.out) (by decide) k hkl
        generalize hx : l[k] = x at hok hrg
        obtain ⟨xk, xn, ⟨xs, xl, xh⟩, xv, xt⟩ := x
        obtain ⟨ok1, ok2, ⟨ok3, ok4, ok5⟩, ok6, keep, ⟨A5, n5, c5, hv5, hn5, hm5, hl5, hs5⟩, hz5⟩ := hok
        dsimp only at ok1 ok2 ok3 ok4 ok5 ok6 hv5
        subst hv5
        have hnl : ¬ n0 ≤ k := by omega
        have hrg : wr.rangeAt b1 (o1 + k * 7) [.int .i64 xk, .int .i64 xn, .int .i64 xs, .int .i64 xl, .int .i64 xh, .slice A5 n5 c5, .string xt] := hrg
        have BY := Blk.new wr [.int .i64 0, .int .i64 0, .int .i64 0, .int .i64 0, .int .i64 0, .slice none 0 0, .string ⟨#[]⟩] 47
        have THY := BY.there 0 7 (by simp)
        have BYS : Blk ((wr.alloc (.cells #[.int .i64 0, .int .i64 0, .int .i64 0, .int .i64 0, .int .i64 0, .slice none 0 0, .string ⟨#[]⟩] 47)).setCells wr.heap.size 0 [.int .i64 xk, .int .i64 xn, .int .i64 xs, .int .i64 xl, .int .i64 xh, .slice A5 n5 c5, .string xt]) wr.heap.size [.int .i64 xk, .int .i64 xn, .int .i64 xs, .int .i64 xl, .int .i64 xh, .slice A5 n5 c5, .string xt] := BY.sets [.int .i64 xk, .int .i64 xn, .int .i64 xs, .int .i64 xl, .int .i64 xh, .slice A5 n5 c5, .string xt] 0 (by simp)
        have LYS : Below wr.heap.size wr ((wr.alloc (.cells #[.int .i64 0, .int .i64 0, .int .i64 0, .int .i64 0, .int .i64 0, .slice none 0 0, .string ⟨#[]⟩] 47)).setCells wr.heap.size 0 [.int .i64 xk, .int .i64 xn, .int .i64 xs, .int .i64 xl, .int .i64 xh, .slice A5 n5 c5, .string xt]) := below_sets (Nat.le_refl _) _ 0 ((Below.refl wr.heap.size wr).alloc (Nat.le_refl _) _)
        have hgr := HB.out.dk.lt
        have hrr := HB.out.dk.row
        have hmr := HB.out.rf.lt
        obtain ⟨WS, hWS⟩ : ∃ WS, WS = (wr.alloc (.cells #[.int .i64 0, .int .i64 0, .int .i64 0, .int .i64 0, .int .i64 0, .slice none 0 0, .string ⟨#[]⟩] 47)).setCells wr.heap.size 0 [.int .i64 xk, .int .i64 xn, .int .i64 xs, .int .i64 xl, .int .i64 xh, .slice A5 n5 c5, .string xt] := ⟨_, rfl⟩
        rw [← hWS] at BYS LYS
        have HWS := Lib.hid hWS
        have HBW := Lib.hid (HB.out.later LYS)
        have HYW := Lib.hid BYS
        have HLW := Lib.hid (HL.out.trans (LYS.mono HL.out.size))
        have HNE : Hid (wr.heap.size ≠ w.heap.size + 1 ∧ wr.heap.size ≠ w.heap.size ∧ r ≠ some wr.heap.size ∧ wr.heap.size ≠ w2.heap.size) := Lib.hid ⟨by omega, by omega, fun e => by have := (hrr _ e).2; omega, by omega⟩
        have HKE : Hid (keep.length = n5 ∧ n5 ≤ maxLen ∧ ∀ W, Below w.heap.size w W → Sees W W.heap.size A5 (ivs keep)) := Lib.hid ⟨hl5, by omega, fun W hW => (hs5.below hW).more hW.size⟩
        have c0 := HYW.out.cell (j := 0) rfl
        have c5' := HYW.out.cell (j := 5) rfl
        have c6' := HYW.out.cell (j := 6) rfl
        have HN2 := Lib.hid ok2
        have HXT := Lib.hid ok6
        obtain ⟨tz, htz⟩ : ∃ tz, tz = xt.size := ⟨_, rfl⟩
        have hts : xt.size = tz := htz.symm
        clear hWS BY BYS LYS hgr hrr hmr hx hb1 hs5 hl5 hn5 hm5 hz5 ok1 ok2 ok3 ok4 ok5 HB HL htz
        by_cases y3 : 200 < tz
        · have y3i : decide ((200 : Int) < (tz : Int)) = true := decide_eq_true (by omega)
          have HLS := HLW
          clear HBW HNE HKE HYW HLW HD ok6
          go_wp2_with (first
            | (have RG1 := hrg
               refine wpList_load_mid rfl 47 (.tmp 36) rfl b1 (o1 + k * 7) rfl [.int .i64 xk, .int .i64 xn, .int .i64 xs, .int .i64 xl, .int .i64 xh, .slice A5 n5 c5, .string xt] _ RG1 hua rfl info_ra ?_
               simp only [Act.put, List.setIfInBounds_toArray, List.set_cons_zero, List.set_cons_succ]
               clear hrg RG1)
            | (have TX1 := THY
               refine wpList_store_mid rfl 47 (.tmp 9) (.tmp 37) rfl wr.heap.size 0 #[.int .i64 xk, .int .i64 xn, .int .i64 xs, .int .i64 xl, .int .i64 xh, .slice A5 n5 c5, .string xt] rfl rfl TX1 info_ra (by simp [Value.oneCell']) ?_
               simp only [Act.put, List.setIfInBounds_toArray, List.set_cons_zero, List.set_cons_succ]
               rw [← HWS.out]
               clear THY TX1 HWS)
            | fail)
          refine (rt_awake _).mono ?_
          rintro e w9 ⟨rfl, hb9⟩
          have HL9 := Lib.hid (HLS.out.trans (hb9.mono HLS.out.size))
          clear hb9
          go_wp2_with fail
          go_ret
          exact ⟨rfl, HL9.out⟩
        · have y3i : decide ((200 : Int) < (tz : Int)) = false := decide_eq_false (by omega)
          by_cases y4 : 60 < n5
          · have y4i : decide ((60 : Int) < (n5 : Int)) = true := decide_eq_true (by omega)
            have HLS := HLW
            clear HBW HNE HKE HYW HLW HD ok6
            go_wp2_with (first
              | (have RG1 := hrg
                 refine wpList_load_mid rfl 47 (.tmp 36) rfl b1 (o1 + k * 7) rfl [.int .i64 xk, .int .i64 xn, .int .i64 xs, .int .i64 xl, .int .i64 xh, .slice A5 n5 c5, .string xt] _ RG1 hua rfl info_ra ?_
                 simp only [Act.put, List.setIfInBounds_toArray, List.set_cons_zero, List.set_cons_succ]
                 clear hrg RG1)
              | (have TX1 := THY
                 refine wpList_store_mid rfl 47 (.tmp 9) (.tmp 37) rfl wr.heap.size 0 #[.int .i64 xk, .int .i64 xn, .int .i64 xs, .int .i64 xl, .int .i64 xh, .slice A5 n5 c5, .string xt] rfl rfl TX1 info_ra (by simp [Value.oneCell']) ?_
                 simp only [Act.put, List.setIfInBounds_toArray, List.set_cons_zero, List.set_cons_succ]
                 rw [← HWS.out]
                 clear THY TX1 HWS)
              | fail)
            refine (rt_awake _).mono ?_
            rintro e w9 ⟨rfl, hb9⟩
            have HL9 := Lib.hid (HLS.out.trans (hb9.mono HLS.out.size))
            clear hb9
            go_wp2_with fail
            go_ret
            exact ⟨rfl, HL9.out⟩
          · have y4i : decide ((60 : Int) < (n5 : Int)) = false := decide_eq_false (by omega)
            clear ok6 y3 y4
            by_cases k0 : xk = 0
            · have e0 : (xk == 0) = true := by rw [k0]; rfl
              clear k0
              have HTO := Lib.hid (fun wx => rtto_any (xs, xl, xh) wx)
              have HTO : Hid (∀ wx, Calls Try.prog 10 #[.agg #[.int .i64 xs, .int .i64 xl, .int .i64 xh]] wx fun e w' => e = .returned (.agg #[.int .i64 xs, .int .i64 xl, .int .i64 xh]) ∧ Below wx.heap.size wx w') := HTO
              have hbits := rstore_bits D (xs, xl, xh) HD.out.1 HD.out.2.1
              have HST : Hid (∀ wx, Below WS.heap.size WS wx → Calls Try.prog 17 #[.pointer (some ⟨w.heap.size + 1, 0, none⟩), .agg #[.int .i64 xs, .int .i64 xl, .int .i64 xh]] wx fun e w' => e = .returned (.int .i64 (rstore D (xs, xl, xh)).2) ∧ ∃ r', DkAt w' w.heap.size (w.heap.size + 1) w.heap.size r' (rstore D (xs, xl, xh)).1 ∧ Turn3 wx w' (w.heap.size + 1) w.heap.size r ∧ RowN wx r r') := Lib.hid (fun wx hb => store_any w.heap.size (w.heap.size + 1) w.heap.size r D (xs, xl, xh) wx (HBW.out.later hb).dk HD.out.1 HD.out.2.1 (by have := HD.out.2.2.1; omega) (by have := HD.out.2.2.2; have := HNB.out; omega) (Nat.le_trans HLW.out.size hb.size))
              have HRS : Hid (∀ wx, RfAt wx w.heap.size w2.heap.size q p D → w.heap.size ≤ wx.heap.size → Calls Try.prog 18 #[.pointer (some ⟨w2.heap.size, 0, none⟩), .agg #[.int .i64 xs, .int .i64 xl, .int .i64 xh]] wx fun e w' => e = .returned (.int .i64 (rstore D (xs, xl, xh)).2) ∧ ∃ q' p', RfAt w' w.heap.size w2.heap.size q' p' (rstore D (xs, xl, xh)).1 ∧ Turn3 wx w' w2.heap.size w2.heap.size none ∧ RowN wx q q' ∧ RowN wx p p') := Lib.hid (fun wx hr hz => rrstore_any w.heap.size w2.heap.size q p D (xs, xl, xh) wx hr HD.out.1 HD.out.2.1 (by have := HD.out.2.2.1; omega) (by have := HD.out.2.2.2; have := HNB.out; omega) hz)
              have HDF : Hid (DIn (rstore D (xs, xl, xh)).1 ∧ (-9223372036854775808 ≤ (rstore D (xs, xl, xh)).1.fuse ∧ (rstore D (xs, xl, xh)).1.fuse ≤ 9223372036854775807) ∧ (rstore D (xs, xl, xh)).1.w.length ≤ k + 1 ∧ (rstore D (xs, xl, xh)).1.s.length = n) := Lib.hid ⟨hbits.1, hbits.2.1, Nat.le_trans hbits.2.2.1 (Nat.succ_le_succ HD.out.2.2.1), hbits.2.2.2.trans HD.out.2.2.2⟩
              generalize rstore D (xs, xl, xh) = D1 at HST HRS HDF
              obtain ⟨D1, er1⟩ := D1
              dsimp only at HST HRS HDF
              clear hbits
              go_wp2_with (first
                | (have RG1 := hrg
                   refine wpList_load_mid rfl 47 (.tmp 36) rfl b1 (o1 + k * 7) rfl [.int .i64 xk, .int .i64 xn, .int .i64 xs, .int .i64 xl, .int .i64 xh, .slice A5 n5 c5, .string xt] _ RG1 hua rfl info_ra ?_
                   simp only [Act.put, List.setIfInBounds_toArray, List.set_cons_zero, List.set_cons_succ]
                   clear hrg RG1)
                | (have TX1 := THY
                   refine wpList_store_mid rfl 47 (.tmp 9) (.tmp 37) rfl wr.heap.size 0 #[.int .i64 xk, .int .i64 xn, .int .i64 xs, .int .i64 xl, .int .i64 xh, .slice A5 n5 c5, .string xt] rfl rfl TX1 info_ra (by simp [Value.oneCell']) ?_
                   simp only [Act.put, List.setIfInBounds_toArray, List.set_cons_zero, List.set_cons_succ]
                   rw [← HWS.out]
                   clear THY TX1 HWS)
                | fail)
              clear c0 c5' c6'
              refine wp_region_held (S := fun wx => wx.rangeAt wr.heap.size 2 [.int .i64 xs, .int .i64 xl, .int .i64 xh]) (by kernel_rfl) ?_
              show Go.wpAnyH Try.prog Region.Mode.any _ _ _ _ _ _ WS.drew
              have hbd : Below WS.heap.size WS WS.drew := (Below.refl _ _).drew
              generalize WS.drew = wd at hbd ⊢
              have hYd := HYW.out.later hbd
              have hS : wd.rangeAt wr.heap.size 2 [.int .i64 xs, .int .i64 xl, .int .i64 xh] := hYd.range 2 [.int .i64 xs, .int .i64 xl, .int .i64 xh] rfl
              refine takeH (i := 0) (oi := _) (v := (.pointer (some ⟨w.heap.size + 1, 0, none⟩))) (fuel := 8) (some 64) rfl rfl (by kernel_rfl) (by kernel_rfl) (by kernel_rfl) (fun _ _ _ h => h) (.inl ⟨by rfl, fun wx hS => by simp [go_sem]⟩) hS ?_
              simp only [Act.put, List.setIfInBounds_toArray, List.set_cons_zero, List.set_cons_succ]
              refine takeH (i := 1) (oi := _) (v := (.pointer (some ⟨wr.heap.size, 2, none⟩))) (fuel := 7) (some 65) rfl rfl (by kernel_rfl) (by kernel_rfl) (by kernel_rfl) (fun _ _ _ h => h) (.inl ⟨by rfl, fun wx hS => by simp [go_sem]⟩) hS ?_
              simp only [Act.put, List.setIfInBounds_toArray, List.set_cons_zero, List.set_cons_succ]
              refine takeH (i := 2) (oi := _) (v := (.agg #[.int .i64 xs, .int .i64 xl, .int .i64 xh])) (fuel := 6) (some 66) rfl rfl (by kernel_rfl) (by kernel_rfl) (by kernel_rfl) (fun _ _ _ h => h) (yieldsIf_load_mid (by rfl) 23 (.tmp 65) rfl wr.heap.size 2 rfl [.int .i64 xs, .int .i64 xl, .int .i64 xh] _ (fun wx hS => hS) hur rfl info_rtfrom) hS ?_
              simp only [Act.put, List.setIfInBounds_toArray, List.set_cons_zero, List.set_cons_succ]
              refine takeH (i := 5) (oi := _) (v := (.pointer (some ⟨wr.heap.size, 2, none⟩))) (fuel := 5) (some 69) rfl rfl (by kernel_rfl) (by kernel_rfl) (by kernel_rfl) (fun _ _ _ h => h) (.inl ⟨by rfl, fun wx hS => by simp [go_sem]⟩) hS ?_
              simp only [Act.put, List.setIfInBounds_toArray, List.set_cons_zero, List.set_cons_succ]
              refine takeH (i := 6) (oi := _) (v := (.agg #[.int .i64 xs, .int .i64 xl, .int .i64 xh])) (fuel := 4) (some 70) rfl rfl (by kernel_rfl) (by kernel_rfl) (by kernel_rfl) (fun _ _ _ h => h) (yieldsIf_load_mid (by rfl) 23 (.tmp 69) rfl wr.heap.size 2 rfl [.int .i64 xs, .int .i64 xl, .int .i64 xh] _ (fun wx hS => hS) hur rfl info_rtfrom) hS ?_
              simp only [Act.put, List.setIfInBounds_toArray, List.set_cons_zero, List.set_cons_succ]
              refine allH [3] 3 (fuel := 3) (by kernel_rfl) ?_
              refine callH (some 67) _ rfl rfl 10 #[.agg #[.int .i64 xs, .int .i64 xl, .int .i64 xh]] (by simp [go_sem]) (by rfl) ?_
              refine (HTO.out wd).mono ?_
              rintro e w4 ⟨rfl, hb4⟩
              have hY4 := hYd.later hb4
              have hb4 := hbd.trans (hb4.mono hbd.size)
              refine ⟨_, rfl, hY4.range 2 [.int .i64 xs, .int .i64 xl, .int .i64 xh] rfl, ?_⟩
              simp only [Act.put, List.setIfInBounds_toArray, List.set_cons_zero, List.set_cons_succ]
              refine allH [4] 4 (fuel := 2) (by kernel_rfl) ?_
              refine callH (some 68) _ rfl rfl 17 #[.pointer (some ⟨w.heap.size + 1, 0, none⟩), .agg #[.int .i64 xs, .int .i64 xl, .int .i64 xh]] (by simp [go_sem]) (by rfl) ?_
              refine (HST.out w4 hb4).mono ?_
              rintro e w5 ⟨rfl, r1, H5, T5, R5⟩
              have hY5 := T5.blk hY4 HNE.out.1 HNE.out.2.1 HNE.out.2.2.1
              refine ⟨_, rfl, hY5.range 2 [.int .i64 xs, .int .i64 xl, .int .i64 xh] rfl, ?_⟩
              have X4 := HBW.out.later hb4
              have M5 := X4.mid T5
              have hz4 : w.heap.size ≤ w4.heap.size := Nat.le_trans HLW.out.size hb4.size
              have hz5 : w.heap.size ≤ w5.heap.size := Nat.le_trans hz4 T5.size
              simp only [Act.put, List.setIfInBounds_toArray, List.set_cons_zero, List.set_cons_succ]
              refine allH [7] 7 (fuel := 1) (by kernel_rfl) ?_
              refine callH (some 71) _ rfl rfl 18 #[.pointer (some ⟨w2.heap.size, 0, none⟩), .agg #[.int .i64 xs, .int .i64 xl, .int .i64 xh]] (by simp [go_sem]) (by rfl) ?_
              refine (HRS.out w5 M5 hz5).mono ?_
              rintro e wS ⟨rfl, q1, p0', H6, T6, Q6, P6⟩
              have hY6 := T6.blk hY5 HNE.out.2.2.2 HNE.out.2.2.2 (by simp)
              refine ⟨_, rfl, hY6.range 2 [.int .i64 xs, .int .i64 xl, .int .i64 xh] rfl, ?_⟩
              simp only [Act.put, List.setIfInBounds_toArray, List.set_cons_zero, List.set_cons_succ]
              have HBS : Hid (Both wS w.heap.size (w.heap.size + 1) w.heap.size r1 w2.heap.size q1 p0' D1) := Lib.hid (X4.step H5 T5 R5 H6 T6 Q6 P6)
              have HLS := Lib.hid ((HLW.out.trans (hb4.mono HLW.out.size)).trans (X4.below T5 T6 hz4))
              have hS := hY6.range 2 [.int .i64 xs, .int .i64 xl, .int .i64 xh] rfl
              clear hYd hY4 hY5 hY6 hb4 hbd X4 M5 hz4 hz5 H5 T5 R5 H6 T6 Q6 P6 HST HRS HTO HBW HLW HYW HKE HD HNE
              refine takeH (i := 8) (oi := _) (v := (.bool false)) (fuel := 0) (some 72) rfl rfl (by kernel_rfl) (by kernel_rfl) (by kernel_rfl) (fun _ _ _ h => h) (.inl ⟨by rfl, fun wx hS => by simp [go_sem]⟩) hS ?_
              simp only [Act.put, List.setIfInBounds_toArray, List.set_cons_zero, List.set_cons_succ]
              refine wpAnyH_done (by kernel_rfl) ?_ 0
              clear hS
              have HLD := Lib.hid (load_any w.heap.size (w.heap.size + 1) w.heap.size r1 D1 wS HBS.out.dk (by have := HDF.out.2.2.1; omega))
              go_wp2_with fail
              refine HLD.out.mono ?_
              rintro e wA ⟨rfl, bA⟩
              have hBA := HBS.out.later bA
              have hLA := HLS.out.trans (bA.mono HLS.out.size)
              have HRL : Hid (∀ A c A' c' wx, Sees wx wx.heap.size A (stc D1.s) → Sees wx wx.heap.size A' (rws wtl D1.w) → Calls Try.prog 25 #[.agg #[.slice A D1.s.length c, .slice A' D1.w.length c', .int .i64 D1.fuse, .bool D1.dead]] wx fun e w' => e = .returned (.tuple #[.agg (rtc (rload D1).1).toArray, .int .i64 (rload D1).2]) ∧ Below wx.heap.size wx w') := Lib.hid (fun A c A' c' wx h1 h2 => rrload_any A A' c c' D1 wx h1 h2 (by have := HDF.out.2.2.2; omega) (by have := HDF.out.2.2.1; omega))
              generalize hrl : rload D1 = y at HRL
              clear HLD bA HBS HLS hrl
              obtain ⟨⟨p1, p2, p3⟩, er⟩ := y
              have HRL : Hid (∀ A c A' c' wx, Sees wx wx.heap.size A (stc D1.s) → Sees wx wx.heap.size A' (rws wtl D1.w) → Calls Try.prog 25 #[.agg #[.slice A D1.s.length c, .slice A' D1.w.length c', .int .i64 D1.fuse, .bool D1.dead]] wx fun e w' => e = .returned (.tuple #[.agg #[.int .i64 p1, .int .i64 p2, .int .i64 p3], .int .i64 er]) ∧ Below wx.heap.size wx w') := HRL
              have BZ := Blk.new wA [.int .i64 0, .int .i64 0, .int .i64 0] 25
              have THZ := BZ.there 0 3 (by simp)
              have BZB : Blk ((wA.alloc (.cells #[.int .i64 0, .int .i64 0, .int .i64 0] 25)).setCells wA.heap.size 0 [.int .i64 p1, .int .i64 p2, .int .i64 p3]) wA.heap.size [.int .i64 p1, .int .i64 p2, .int .i64 p3] := BZ.sets [.int .i64 p1, .int .i64 p2, .int .i64 p3] 0 (by simp)
              have LAB : Below wA.heap.size wA ((wA.alloc (.cells #[.int .i64 0, .int .i64 0, .int .i64 0] 25)).setCells wA.heap.size 0 [.int .i64 p1, .int .i64 p2, .int .i64 p3]) := below_sets (Nat.le_refl _) _ 0 ((Below.refl wA.heap.size wA).alloc (Nat.le_refl _) _)
              obtain ⟨WB, hWB⟩ : ∃ WB, WB = (wA.alloc (.cells #[.int .i64 0, .int .i64 0, .int .i64 0] 25)).setCells wA.heap.size 0 [.int .i64 p1, .int .i64 p2, .int .i64 p3] := ⟨_, rfl⟩
              rw [← hWB] at BZB LAB
              have HWB := Lib.hid hWB
              have hBB := hBA.later LAB
              have HLB := Lib.hid (hLA.trans (LAB.mono hLA.size))
              obtain ⟨A6, c6, A7, c7, RBD, mr1, mr2⟩ := hBB.rf.hand
              have HRLB := Lib.hid (HRL.out A6 c6 A7 c7 WB mr1 mr2)
              have HBB := Lib.hid hBB
              have HZB := Lib.hid BZB
              clear hWB BZ BZB LAB hBA hLA hBB mr1 mr2 HRL
              obtain ⟨ls, hls⟩ : ∃ ls, ls = D1.s.length := ⟨_, rfl⟩
              obtain ⟨lw, hlw⟩ : ∃ lw, lw = D1.w.length := ⟨_, rfl⟩
              obtain ⟨fu, hfu⟩ : ∃ fu, fu = D1.fuse := ⟨_, rfl⟩
              obtain ⟨dd, hdd⟩ : ∃ dd, dd = D1.dead := ⟨_, rfl⟩
              rw [← hls, ← hlw, ← hfu, ← hdd] at RBD HRLB
              clear hls hlw hfu hdd
              go_wp2_with (first
                | (have TX1 := THZ
                   refine wpList_store_mid rfl 25 (.tmp 10) (.tmp 94) rfl wA.heap.size 0 #[.int .i64 p1, .int .i64 p2, .int .i64 p3] rfl rfl TX1 info_rtto (by simp [Value.oneCell']) ?_
                   simp only [Act.put, List.setIfInBounds_toArray, List.set_cons_zero, List.set_cons_succ]
                   rw [← HWB.out]
                   clear THZ TX1 HWB)
                | (have RB1 := RBD
                   refine wpList_load_mid rfl 43 (.tmp 7) rfl w2.heap.size 0 rfl [.slice A6 ls c6, .slice A7 lw c7, .int .i64 fu, .bool dd] _ RB1 hud rfl info_rd ?_
                   simp only [Act.put, List.setIfInBounds_toArray, List.set_cons_zero, List.set_cons_succ]
                   clear RBD RB1)
                | fail)
              refine HRLB.out.mono ?_
              rintro e wC ⟨rfl, bC⟩
              have hBC := HBB.out.later bC
              have hZC := HZB.out.later bC
              have hLC := HLB.out.trans (bC.mono HLB.out.size)
              have BV := Blk.new wC [.int .i64 0, .int .i64 0, .int .i64 0] 23
              have THV := BV.there 0 3 (by simp)
              have BVD : Blk ((wC.alloc (.cells #[.int .i64 0, .int .i64 0, .int .i64 0] 23)).setCells wC.heap.size 0 [.int .i64 p1, .int .i64 p2, .int .i64 p3]) wC.heap.size [.int .i64 p1, .int .i64 p2, .int .i64 p3] := BV.sets [.int .i64 p1, .int .i64 p2, .int .i64 p3] 0 (by simp)
              have LCD : Below wC.heap.size wC ((wC.alloc (.cells #[.int .i64 0, .int .i64 0, .int .i64 0] 23)).setCells wC.heap.size 0 [.int .i64 p1, .int .i64 p2, .int .i64 p3]) := below_sets (Nat.le_refl _) _ 0 ((Below.refl wC.heap.size wC).alloc (Nat.le_refl _) _)
              obtain ⟨WD, hWD⟩ : ∃ WD, WD = (wC.alloc (.cells #[.int .i64 0, .int .i64 0, .int .i64 0] 23)).setCells wC.heap.size 0 [.int .i64 p1, .int .i64 p2, .int .i64 p3] := ⟨_, rfl⟩
              rw [← hWD] at BVD LCD
              have HWD := Lib.hid hWD
              have HBD := Lib.hid (hBC.later LCD)
              have HZD := Lib.hid (hZC.later LCD)
              have HVD := Lib.hid BVD
              have HLD := Lib.hid (hLC.trans (LCD.mono hLC.size))
              clear hWD BV BVD LCD hBC hZC hLC bC HBB HZB HLB HRLB
              go_wp2_with (first
                | (have TX1 := THV
                   refine wpList_store_mid rfl 23 (.tmp 12) (.tmp 99) rfl wC.heap.size 0 #[.int .i64 p1, .int .i64 p2, .int .i64 p3] rfl rfl TX1 info_rtfrom (by simp [Value.oneCell']) ?_
                   simp only [Act.put, List.setIfInBounds_toArray, List.set_cons_zero, List.set_cons_succ]
                   rw [← HWD.out]
                   clear THV TX1 HWD)
                | fail)
              have HFR := Lib.hid (fun wx => rtfrom_any (p1, p2, p3) wx)
              have HEQ := Lib.hid (fun wx => eq_rrtq 9998 (p1, p2, p3) (p1, p2, p3) wx)
              rw [decide_eq_true rfl] at HEQ
              refine wp_region_steady [] 124 (by kernel_rfl) (by kernel_rfl) (by kernel_rfl) (by rfl) ?_
              refine wpG_run (by rfl) (by rfl) (.agg #[.int .i64 p1, .int .i64 p2, .int .i64 p3]) (fun wx hl => exec_load 25 (.tmp 10) rfl wA.heap.size 0 rfl [.int .i64 p1, .int .i64 p2, .int .i64 p3] _ ((HZD.out.later hl.1).range 0 _ rfl) hu rfl info_rtto) ?_
              simp only [Act.put, List.setIfInBounds_toArray, List.set_cons_zero, List.set_cons_succ]
              refine wpG_call (by rfl) (by rfl) 14 #[.agg #[.int .i64 p1, .int .i64 p2, .int .i64 p3]] (.agg #[.int .i64 p1, .int .i64 p2, .int .i64 p3]) (by intro _; simp [go_sem]) (by kernel_rfl) (fun wx _ => HFR.out wx) ?_
              simp only [Act.put, List.setIfInBounds_toArray, List.set_cons_zero, List.set_cons_succ]
              refine wpG_run (by rfl) (by rfl) (.agg #[.int .i64 p1, .int .i64 p2, .int .i64 p3]) (fun wx hl => exec_load 23 (.tmp 12) rfl wC.heap.size 0 rfl [.int .i64 p1, .int .i64 p2, .int .i64 p3] _ ((HVD.out.later hl.1).range 0 _ rfl) hur rfl info_rtfrom) ?_
              simp only [Act.put, List.setIfInBounds_toArray, List.set_cons_zero, List.set_cons_succ]
              refine wpG_run (by rfl) (by rfl) (.bool (!true)) (fun wx hl => exec_neq 23 _ (.tmp 102) (.tmp 103) rfl #[.int .i64 p1, .int .i64 p2, .int .i64 p3] #[.int .i64 p1, .int .i64 p2, .int .i64 p3] rfl rfl (by kernel_rfl) true (HEQ.out wx)) ?_
              simp only [Act.put, List.setIfInBounds_toArray, List.set_cons_zero, List.set_cons_succ]
              simp only [Bool.not_true]
              iterate 3 (refine wpG_quiet (by rfl) (by rfl) (by rfl) (fun K hK => ?_); go_big_quiet_op; refine hK _ ?_; clear hK K)
              refine wpG_run (by rfl) (by rfl) (.bool false) (fun wx hl => by simp [go_sem]) ?_
              simp only [Act.put, List.setIfInBounds_toArray, List.set_cons_zero, List.set_cons_succ]
              iterate 1 (refine wpG_quiet (by rfl) (by rfl) (by rfl) (fun K hK => ?_); go_big_quiet_op; refine hK _ ?_; clear hK K)
              refine wpG_nil fun wE hl _ => ?_
              have HBE := Lib.hid (HBD.out.later hl)
              have HLE := Lib.hid (HLD.out.trans (hl.mono HLD.out.size))
              clear hl HBD HZD HVD HLD HFR HEQ
              go_wp2_with fail
              go_roundw
              case rel => exact ⟨k + 1, by omega, by go_num, r1, q1, p0', D1, HBE, HDF, HLE⟩
              case measure => simp [intOf]; omega
            · have e0 : (xk == 0) = false := by rw [beq_eq_false_iff_ne]; exact k0
              by_cases k1 : xk = 1
              · have e1 : (xk == 1) = true := by rw [k1]; rfl
                clear k0 k1
                have c1' := HYW.out.cell (j := 1) rfl
                have HFU := Lib.hid (fuse_any w.heap.size (w.heap.size + 1) w.heap.size r D xn WS HBW.out.dk)
                obtain ⟨D1, hD1⟩ : ∃ D1, D1 = ({ D with fuse := xn } : Dk) := ⟨_, rfl⟩
                have HD1 := Lib.hid hD1
                rw [← hD1] at HFU
                have HDF : Hid (DIn D1 ∧ (-9223372036854775808 ≤ D1.fuse ∧ D1.fuse ≤ 9223372036854775807) ∧ D1.w.length ≤ k + 1 ∧ D1.s.length = n) := Lib.hid (by rw [hD1]; exact ⟨HD.out.1, HN2.out, Nat.le_succ_of_le HD.out.2.2.1, HD.out.2.2.2⟩)
                clear hD1
                go_wp2_with (first
                  | (have RG1 := hrg
                     refine wpList_load_mid rfl 47 (.tmp 36) rfl b1 (o1 + k * 7) rfl [.int .i64 xk, .int .i64 xn, .int .i64 xs, .int .i64 xl, .int .i64 xh, .slice A5 n5 c5, .string xt] _ RG1 hua rfl info_ra ?_
                     simp only [Act.put, List.setIfInBounds_toArray, List.set_cons_zero, List.set_cons_succ]
                     clear hrg RG1)
                  | (have TX1 := THY
                     refine wpList_store_mid rfl 47 (.tmp 9) (.tmp 37) rfl wr.heap.size 0 #[.int .i64 xk, .int .i64 xn, .int .i64 xs, .int .i64 xl, .int .i64 xh, .slice A5 n5 c5, .string xt] rfl rfl TX1 info_ra (by simp [Value.oneCell']) ?_
                     simp only [Act.put, List.setIfInBounds_toArray, List.set_cons_zero, List.set_cons_succ]
                     rw [← HWS.out]
                     clear THY TX1 HWS)
                  | fail)
                refine HFU.out.mono ?_
                rintro e w4 ⟨rfl, H4, T4⟩
                have hY4 := T4.blk HYW.out HNE.out.1 HNE.out.2.1 HNE.out.2.2.1
                have d1' := hY4.cell (j := 1) rfl
                have M4 := HBW.out.mid T4
                have hz4 : w.heap.size ≤ w4.heap.size := Nat.le_trans HLW.out.size T4.size
                have H5 : RfAt (w4.setCell ⟨w2.heap.size, 2, none⟩ (.int .i64 xn)) w.heap.size w2.heap.size q p D1 := by rw [HD1.out]; exact M4.setFuse xn
                have T5 := Turn3.set w4 w2.heap.size w2.heap.size w2.heap.size 2 none (.int .i64 xn) (.inl rfl)
                obtain ⟨q1, hq1⟩ : ∃ q1, q1 = q := ⟨_, rfl⟩
                obtain ⟨r1, hr1⟩ : ∃ r1, r1 = r := ⟨_, rfl⟩
                obtain ⟨p0', hp1⟩ : ∃ p1, p1 = p := ⟨_, rfl⟩
                have HBS : Hid (Both (w4.setCell ⟨w2.heap.size, 2, none⟩ (.int .i64 xn)) w.heap.size (w.heap.size + 1) w.heap.size r1 w2.heap.size q1 p0' D1) := Lib.hid (by rw [hr1, hp1, hq1]; exact HBW.out.step H4 T4 (RowN.refl _ _) H5 T5 (RowN.refl _ _) (RowN.refl _ _))
                have HLS := Lib.hid (HLW.out.trans (HBW.out.below T4 T5 HLW.out.size))
                obtain ⟨A3, c3, A4, c4, _, _, m2, _, _, _, _, _, mz⟩ := M4.cells
                have mz := mz 2
                obtain ⟨wS, hwS⟩ : ∃ wS, wS = w4.setCell ⟨w2.heap.size, 2, none⟩ (.int .i64 xn) := ⟨_, rfl⟩
                rw [← hwS] at HBS HLS
                have HwS := Lib.hid hwS
                clear hwS hq1 hr1 hp1 H5 T5 H4 T4 M4 hz4 c0 c1' c5' c6' hY4 HFU HBW HLW HYW HKE HD HNE
                have HLD := Lib.hid (load_any w.heap.size (w.heap.size + 1) w.heap.size r1 D1 wS HBS.out.dk (by have := HDF.out.2.2.1; omega))
                go_wp2_with fail
                rw [← HwS.out]
                clear m2 mz d1' HwS HD1
                refine HLD.out.mono ?_
                rintro e wA ⟨rfl, bA⟩
                have hBA := HBS.out.later bA
                have hLA := HLS.out.trans (bA.mono HLS.out.size)
                have HRL : Hid (∀ A c A' c' wx, Sees wx wx.heap.size A (stc D1.s) → Sees wx wx.heap.size A' (rws wtl D1.w) → Calls Try.prog 25 #[.agg #[.slice A D1.s.length c, .slice A' D1.w.length c', .int .i64 D1.fuse, .bool D1.dead]] wx fun e w' => e = .returned (.tuple #[.agg (rtc (rload D1).1).toArray, .int .i64 (rload D1).2]) ∧ Below wx.heap.size wx w') := Lib.hid (fun A c A' c' wx h1 h2 => rrload_any A A' c c' D1 wx h1 h2 (by have := HDF.out.2.2.2; omega) (by have := HDF.out.2.2.1; omega))
                generalize hrl : rload D1 = y at HRL
                clear HLD bA HBS HLS hrl
                obtain ⟨⟨p1, p2, p3⟩, er⟩ := y
                have HRL : Hid (∀ A c A' c' wx, Sees wx wx.heap.size A (stc D1.s) → Sees wx wx.heap.size A' (rws wtl D1.w) → Calls Try.prog 25 #[.agg #[.slice A D1.s.length c, .slice A' D1.w.length c', .int .i64 D1.fuse, .bool D1.dead]] wx fun e w' => e = .returned (.tuple #[.agg #[.int .i64 p1, .int .i64 p2, .int .i64 p3], .int .i64 er]) ∧ Below wx.heap.size wx w') := HRL
                have BZ := Blk.new wA [.int .i64 0, .int .i64 0, .int .i64 0] 25
                have THZ := BZ.there 0 3 (by simp)
                have BZB : Blk ((wA.alloc (.cells #[.int .i64 0, .int .i64 0, .int .i64 0] 25)).setCells wA.heap.size 0 [.int .i64 p1, .int .i64 p2, .int .i64 p3]) wA.heap.size [.int .i64 p1, .int .i64 p2, .int .i64 p3] := BZ.sets [.int .i64 p1, .int .i64 p2, .int .i64 p3] 0 (by simp)
                have LAB : Below wA.heap.size wA ((wA.alloc (.cells #[.int .i64 0, .int .i64 0, .int .i64 0] 25)).setCells wA.heap.size 0 [.int .i64 p1, .int .i64 p2, .int .i64 p3]) := below_sets (Nat.le_refl _) _ 0 ((Below.refl wA.heap.size wA).alloc (Nat.le_refl _) _)
                obtain ⟨WB, hWB⟩ : ∃ WB, WB = (wA.alloc (.cells #[.int .i64 0, .int .i64 0, .int .i64 0] 25)).setCells wA.heap.size 0 [.int .i64 p1, .int .i64 p2, .int .i64 p3] := ⟨_, rfl⟩
                rw [← hWB] at BZB LAB
                have HWB := Lib.hid hWB
                have hBB := hBA.later LAB
                have HLB := Lib.hid (hLA.trans (LAB.mono hLA.size))
                obtain ⟨A6, c6, A7, c7, RBD, mr1, mr2⟩ := hBB.rf.hand
                have HRLB := Lib.hid (HRL.out A6 c6 A7 c7 WB mr1 mr2)
                have HBB := Lib.hid hBB
                have HZB := Lib.hid BZB
                clear hWB BZ BZB LAB hBA hLA hBB mr1 mr2 HRL
                obtain ⟨ls, hls⟩ : ∃ ls, ls = D1.s.length := ⟨_, rfl⟩
                obtain ⟨lw, hlw⟩ : ∃ lw, lw = D1.w.length := ⟨_, rfl⟩
                obtain ⟨fu, hfu⟩ : ∃ fu, fu = D1.fuse := ⟨_, rfl⟩
                obtain ⟨dd, hdd⟩ : ∃ dd, dd = D1.dead := ⟨_, rfl⟩
                rw [← hls, ← hlw, ← hfu, ← hdd] at RBD HRLB
                clear hls hlw hfu hdd
                go_wp2_with (first
                  | (have TX1 := THZ
                     refine wpList_store_mid rfl 25 (.tmp 10) (.tmp 94) rfl wA.heap.size 0 #[.int .i64 p1, .int .i64 p2, .int .i64 p3] rfl rfl TX1 info_rtto (by simp [Value.oneCell']) ?_
                     simp only [Act.put, List.setIfInBounds_toArray, List.set_cons_zero, List.set_cons_succ]
                     rw [← HWB.out]
                     clear THZ TX1 HWB)
                  | (have RB1 := RBD
                     refine wpList_load_mid rfl 43 (.tmp 7) rfl w2.heap.size 0 rfl [.slice A6 ls c6, .slice A7 lw c7, .int .i64 fu, .bool dd] _ RB1 hud rfl info_rd ?_
                     simp only [Act.put, List.setIfInBounds_toArray, List.set_cons_zero, List.set_cons_succ]
                     clear RBD RB1)
                  | fail)
                refine HRLB.out.mono ?_
                rintro e wC ⟨rfl, bC⟩
                have hBC := HBB.out.later bC
                have hZC := HZB.out.later bC
                have hLC := HLB.out.trans (bC.mono HLB.out.size)
                have BV := Blk.new wC [.int .i64 0, .int .i64 0, .int .i64 0] 23
                have THV := BV.there 0 3 (by simp)
                have BVD : Blk ((wC.alloc (.cells #[.int .i64 0, .int .i64 0, .int .i64 0] 23)).setCells wC.heap.size 0 [.int .i64 p1, .int .i64 p2, .int .i64 p3]) wC.heap.size [.int .i64 p1, .int .i64 p2, .int .i64 p3] := BV.sets [.int .i64 p1, .int .i64 p2, .int .i64 p3] 0 (by simp)
                have LCD : Below wC.heap.size wC ((wC.alloc (.cells #[.int .i64 0, .int .i64 0, .int .i64 0] 23)).setCells wC.heap.size 0 [.int .i64 p1, .int .i64 p2, .int .i64 p3]) := below_sets (Nat.le_refl _) _ 0 ((Below.refl wC.heap.size wC).alloc (Nat.le_refl _) _)
                obtain ⟨WD, hWD⟩ : ∃ WD, WD = (wC.alloc (.cells #[.int .i64 0, .int .i64 0, .int .i64 0] 23)).setCells wC.heap.size 0 [.int .i64 p1, .int .i64 p2, .int .i64 p3] := ⟨_, rfl⟩
                rw [← hWD] at BVD LCD
                have HWD := Lib.hid hWD
                have HBD := Lib.hid (hBC.later LCD)
                have HZD := Lib.hid (hZC.later LCD)
                have HVD := Lib.hid BVD
                have HLD := Lib.hid (hLC.trans (LCD.mono hLC.size))
                clear hWD BV BVD LCD hBC hZC hLC bC HBB HZB HLB HRLB
                go_wp2_with (first
                  | (have TX1 := THV
                     refine wpList_store_mid rfl 23 (.tmp 12) (.tmp 99) rfl wC.heap.size 0 #[.int .i64 p1, .int .i64 p2, .int .i64 p3] rfl rfl TX1 info_rtfrom (by simp [Value.oneCell']) ?_
                     simp only [Act.put, List.setIfInBounds_toArray, List.set_cons_zero, List.set_cons_succ]
                     rw [← HWD.out]
                     clear THV TX1 HWD)
                  | fail)
                have HFR := Lib.hid (fun wx => rtfrom_any (p1, p2, p3) wx)
                have HEQ := Lib.hid (fun wx => eq_rrtq 9998 (p1, p2, p3) (p1, p2, p3) wx)
                rw [decide_eq_true rfl] at HEQ
                refine wp_region_steady [] 124 (by kernel_rfl) (by kernel_rfl) (by kernel_rfl) (by rfl) ?_
                refine wpG_run (by rfl) (by rfl) (.agg #[.int .i64 p1, .int .i64 p2, .int .i64 p3]) (fun wx hl => exec_load 25 (.tmp 10) rfl wA.heap.size 0 rfl [.int .i64 p1, .int .i64 p2, .int .i64 p3] _ ((HZD.out.later hl.1).range 0 _ rfl) hu rfl info_rtto) ?_
                simp only [Act.put, List.setIfInBounds_toArray, List.set_cons_zero, List.set_cons_succ]
                refine wpG_call (by rfl) (by rfl) 14 #[.agg #[.int .i64 p1, .int .i64 p2, .int .i64 p3]] (.agg #[.int .i64 p1, .int .i64 p2, .int .i64 p3]) (by intro _; simp [go_sem]) (by kernel_rfl) (fun wx _ => HFR.out wx) ?_
                simp only [Act.put, List.setIfInBounds_toArray, List.set_cons_zero, List.set_cons_succ]
                refine wpG_run (by rfl) (by rfl) (.agg #[.int .i64 p1, .int .i64 p2, .int .i64 p3]) (fun wx hl => exec_load 23 (.tmp 12) rfl wC.heap.size 0 rfl [.int .i64 p1, .int .i64 p2, .int .i64 p3] _ ((HVD.out.later hl.1).range 0 _ rfl) hur rfl info_rtfrom) ?_
                simp only [Act.put, List.setIfInBounds_toArray, List.set_cons_zero, List.set_cons_succ]
                refine wpG_run (by rfl) (by rfl) (.bool (!true)) (fun wx hl => exec_neq 23 _ (.tmp 102) (.tmp 103) rfl #[.int .i64 p1, .int .i64 p2, .int .i64 p3] #[.int .i64 p1, .int .i64 p2, .int .i64 p3] rfl rfl (by kernel_rfl) true (HEQ.out wx)) ?_
                simp only [Act.put, List.setIfInBounds_toArray, List.set_cons_zero, List.set_cons_succ]
                simp only [Bool.not_true]
                iterate 3 (refine wpG_quiet (by rfl) (by rfl) (by rfl) (fun K hK => ?_); go_big_quiet_op; refine hK _ ?_; clear hK K)
                refine wpG_run (by rfl) (by rfl) (.bool false) (fun wx hl => by simp [go_sem]) ?_
                simp only [Act.put, List.setIfInBounds_toArray, List.set_cons_zero, List.set_cons_succ]
                iterate 1 (refine wpG_quiet (by rfl) (by rfl) (by rfl) (fun K hK => ?_); go_big_quiet_op; refine hK _ ?_; clear hK K)
                refine wpG_nil fun wE hl _ => ?_
                have HBE := Lib.hid (HBD.out.later hl)
                have HLE := Lib.hid (HLD.out.trans (hl.mono HLD.out.size))
                clear hl HBD HZD HVD HLD HFR HEQ
                go_wp2_with fail
                go_roundw
                case rel => exact ⟨k + 1, by omega, by go_num, r1, q1, p0', D1, HBE, HDF, HLE⟩
                case measure => simp [intOf]; omega
              · have e1 : (xk == 1) = false := by rw [beq_eq_false_iff_ne]; exact k1
                by_cases k2 : xk = 2
                · have e2 : (xk == 2) = true := by rw [k2]; rfl
                  clear k0 k1 k2
                  have HCR := Lib.hid (crash_any w.heap.size (w.heap.size + 1) w.heap.size r D A5 n5 c5 keep WS HBW.out.dk HD.out.1 (by have := HD.out.2.2.1; omega) HLW.out.size HKE.out.1 HKE.out.2.1 (fun W hT => HKE.out.2.2 W (HLW.out.trans (hT.below (Nat.le_refl _) (Nat.le_refl _) (fun k e => by cases e) HLW.out.size))))
                  have HRC : Hid (∀ wx, RfAt wx w.heap.size w2.heap.size q p D → Below w.heap.size w wx → Calls Try.prog 21 #[.pointer (some ⟨w2.heap.size, 0, none⟩), .slice A5 n5 c5] wx fun e w' => e = .returned (.tuple #[]) ∧ ∃ q', RfAt w' w.heap.size w2.heap.size q' none (dcrash D keep) ∧ Turn3 wx w' w2.heap.size w2.heap.size none ∧ RowN wx q q') := Lib.hid (fun wx hr hb => rcrash_any w.heap.size w2.heap.size q p D A5 n5 c5 keep wx hr HD.out.1 (by have := HD.out.2.2.1; omega) (by have := HD.out.2.2.2; have := HNB.out; omega) hb.size HKE.out.1 HKE.out.2.1 (fun W hT => HKE.out.2.2 W (hb.trans (hT.below hr.Lm hr.Lm (fun k e => by cases e) hb.size))))
                  obtain ⟨D1, hD1⟩ : ∃ D1, D1 = dcrash D keep := ⟨_, rfl⟩
                  rw [← hD1] at HCR HRC
                  have HDF : Hid (DIn D1 ∧ (-9223372036854775808 ≤ D1.fuse ∧ D1.fuse ≤ 9223372036854775807) ∧ D1.w.length ≤ k + 1 ∧ D1.s.length = n) := Lib.hid (by rw [hD1]; exact ⟨DIn.crash _ _, by simp [dcrash], by simp [dcrash], (dkeep_len _ _ _ _).trans HD.out.2.2.2⟩)
                  clear hD1
                  go_wp2_with (first
                    | (have RG1 := hrg
                       refine wpList_load_mid rfl 47 (.tmp 36) rfl b1 (o1 + k * 7) rfl [.int .i64 xk, .int .i64 xn, .int .i64 xs, .int .i64 xl, .int .i64 xh, .slice A5 n5 c5, .string xt] _ RG1 hua rfl info_ra ?_
                       simp only [Act.put, List.setIfInBounds_toArray, List.set_cons_zero, List.set_cons_succ]
                       clear hrg RG1)
                    | (have TX1 := THY
                       refine wpList_store_mid rfl 47 (.tmp 9) (.tmp 37) rfl wr.heap.size 0 #[.int .i64 xk, .int .i64 xn, .int .i64 xs, .int .i64 xl, .int .i64 xh, .slice A5 n5 c5, .string xt] rfl rfl TX1 info_ra (by simp [Value.oneCell']) ?_
                       simp only [Act.put, List.setIfInBounds_toArray, List.set_cons_zero, List.set_cons_succ]
                       rw [← HWS.out]
                       clear THY TX1 HWS)
                    | fail)
                  refine HCR.out.mono ?_
                  rintro e w4 ⟨rfl, H4, T4⟩
                  have hY4 := T4.blk HYW.out HNE.out.1 HNE.out.2.1 HNE.out.2.2.1
                  have d5' := hY4.cell (j := 5) rfl
                  have M4 := HBW.out.mid T4
                  have b4 : Below w.heap.size w w4 := HLW.out.trans (T4.below (by omega) (Nat.le_refl _) (fun k e => (HBW.out.dk.row k e).1) HLW.out.size)
                  have H4 := Lib.hid H4
                  have T4 := Lib.hid T4
                  have M4 := Lib.hid M4
                  have b4 := Lib.hid b4
                  clear c0 c5' c6' hY4 HCR
                  go_wp2_with fail
                  refine (HRC.out w4 M4.out b4.out).mono ?_
                  rintro e wS ⟨rfl, q1, H5, T5, Q5⟩
                  obtain ⟨r1, hr1⟩ : ∃ r1 : Option Nat, r1 = none := ⟨_, rfl⟩
                  obtain ⟨p0', hp1⟩ : ∃ p1 : Option Nat, p1 = none := ⟨_, rfl⟩
                  have HBS : Hid (Both wS w.heap.size (w.heap.size + 1) w.heap.size r1 w2.heap.size q1 p0' D1) := Lib.hid (by rw [hr1, hp1]; exact HBW.out.step H4.out T4.out (RowN.none _ _) H5 T5 Q5 (RowN.none _ _))
                  have HLS := Lib.hid (HLW.out.trans (HBW.out.below T4.out T5 HLW.out.size))
                  clear hr1 hp1 H5 T5 Q5 H4 T4 M4 b4 d5' HRC HBW HLW HYW HKE HD HNE
                  have HLD := Lib.hid (load_any w.heap.size (w.heap.size + 1) w.heap.size r1 D1 wS HBS.out.dk (by have := HDF.out.2.2.1; omega))
                  go_wp2_with fail
                  refine HLD.out.mono ?_
                  rintro e wA ⟨rfl, bA⟩
                  have hBA := HBS.out.later bA
                  have hLA := HLS.out.trans (bA.mono HLS.out.size)
                  have HRL : Hid (∀ A c A' c' wx, Sees wx wx.heap.size A (stc D1.s) → Sees wx wx.heap.size A' (rws wtl D1.w) → Calls Try.prog 25 #[.agg #[.slice A D1.s.length c, .slice A' D1.w.length c', .int .i64 D1.fuse, .bool D1.dead]] wx fun e w' => e = .returned (.tuple #[.agg (rtc (rload D1).1).toArray, .int .i64 (rload D1).2]) ∧ Below wx.heap.size wx w') := Lib.hid (fun A c A' c' wx h1 h2 => rrload_any A A' c c' D1 wx h1 h2 (by have := HDF.out.2.2.2; omega) (by have := HDF.out.2.2.1; omega))
                  generalize hrl : rload D1 = y at HRL
                  clear HLD bA HBS HLS hrl
                  obtain ⟨⟨p1, p2, p3⟩, er⟩ := y
                  have HRL : Hid (∀ A c A' c' wx, Sees wx wx.heap.size A (stc D1.s) → Sees wx wx.heap.size A' (rws wtl D1.w) → Calls Try.prog 25 #[.agg #[.slice A D1.s.length c, .slice A' D1.w.length c', .int .i64 D1.fuse, .bool D1.dead]] wx fun e w' => e = .returned (.tuple #[.agg #[.int .i64 p1, .int .i64 p2, .int .i64 p3], .int .i64 er]) ∧ Below wx.heap.size wx w') := HRL
                  have BZ := Blk.new wA [.int .i64 0, .int .i64 0, .int .i64 0] 25
                  have THZ := BZ.there 0 3 (by simp)
                  have BZB : Blk ((wA.alloc (.cells #[.int .i64 0, .int .i64 0, .int .i64 0] 25)).setCells wA.heap.size 0 [.int .i64 p1, .int .i64 p2, .int .i64 p3]) wA.heap.size [.int .i64 p1, .int .i64 p2, .int .i64 p3] := BZ.sets [.int .i64 p1, .int .i64 p2, .int .i64 p3] 0 (by simp)
                  have LAB : Below wA.heap.size wA ((wA.alloc (.cells #[.int .i64 0, .int .i64 0, .int .i64 0] 25)).setCells wA.heap.size 0 [.int .i64 p1, .int .i64 p2, .int .i64 p3]) := below_sets (Nat.le_refl _) _ 0 ((Below.refl wA.heap.size wA).alloc (Nat.le_refl _) _)
                  obtain ⟨WB, hWB⟩ : ∃ WB, WB = (wA.alloc (.cells #[.int .i64 0, .int .i64 0, .int .i64 0] 25)).setCells wA.heap.size 0 [.int .i64 p1, .int .i64 p2, .int .i64 p3] := ⟨_, rfl⟩
                  rw [← hWB] at BZB LAB
                  have HWB := Lib.hid hWB
                  have hBB := hBA.later LAB
                  have HLB := Lib.hid (hLA.trans (LAB.mono hLA.size))
                  obtain ⟨A6, c6, A7, c7, RBD, mr1, mr2⟩ := hBB.rf.hand
                  have HRLB := Lib.hid (HRL.out A6 c6 A7 c7 WB mr1 mr2)
                  have HBB := Lib.hid hBB
                  have HZB := Lib.hid BZB
                  clear hWB BZ BZB LAB hBA hLA hBB mr1 mr2 HRL
                  obtain ⟨ls, hls⟩ : ∃ ls, ls = D1.s.length := ⟨_, rfl⟩
                  obtain ⟨lw, hlw⟩ : ∃ lw, lw = D1.w.length := ⟨_, rfl⟩
                  obtain ⟨fu, hfu⟩ : ∃ fu, fu = D1.fuse := ⟨_, rfl⟩
                  obtain ⟨dd, hdd⟩ : ∃ dd, dd = D1.dead := ⟨_, rfl⟩
                  rw [← hls, ← hlw, ← hfu, ← hdd] at RBD HRLB
                  clear hls hlw hfu hdd
                  go_wp2_with (first
                    | (have TX1 := THZ
                       refine wpList_store_mid rfl 25 (.tmp 10) (.tmp 94) rfl wA.heap.size 0 #[.int .i64 p1, .int .i64 p2, .int .i64 p3] rfl rfl TX1 info_rtto (by simp [Value.oneCell']) ?_
                       simp only [Act.put, List.setIfInBounds_toArray, List.set_cons_zero, List.set_cons_succ]
                       rw [← HWB.out]
                       clear THZ TX1 HWB)
                    | (have RB1 := RBD
                       refine wpList_load_mid rfl 43 (.tmp 7) rfl w2.heap.size 0 rfl [.slice A6 ls c6, .slice A7 lw c7, .int .i64 fu, .bool dd] _ RB1 hud rfl info_rd ?_
                       simp only [Act.put, List.setIfInBounds_toArray, List.set_cons_zero, List.set_cons_succ]
                       clear RBD RB1)
                    | fail)
                  refine HRLB.out.mono ?_
                  rintro e wC ⟨rfl, bC⟩
                  have hBC := HBB.out.later bC
                  have hZC := HZB.out.later bC
                  have hLC := HLB.out.trans (bC.mono HLB.out.size)
                  have BV := Blk.new wC [.int .i64 0, .int .i64 0, .int .i64 0] 23
                  have THV := BV.there 0 3 (by simp)
                  have BVD : Blk ((wC.alloc (.cells #[.int .i64 0, .int .i64 0, .int .i64 0] 23)).setCells wC.heap.size 0 [.int .i64 p1, .int .i64 p2, .int .i64 p3]) wC.heap.size [.int .i64 p1, .int .i64 p2, .int .i64 p3] := BV.sets [.int .i64 p1, .int .i64 p2, .int .i64 p3] 0 (by simp)
                  have LCD : Below wC.heap.size wC ((wC.alloc (.cells #[.int .i64 0, .int .i64 0, .int .i64 0] 23)).setCells wC.heap.size 0 [.int .i64 p1, .int .i64 p2, .int .i64 p3]) := below_sets (Nat.le_refl _) _ 0 ((Below.refl wC.heap.size wC).alloc (Nat.le_refl _) _)
                  obtain ⟨WD, hWD⟩ : ∃ WD, WD = (wC.alloc (.cells #[.int .i64 0, .int .i64 0, .int .i64 0] 23)).setCells wC.heap.size 0 [.int .i64 p1, .int .i64 p2, .int .i64 p3] := ⟨_, rfl⟩
                  rw [← hWD] at BVD LCD
                  have HWD := Lib.hid hWD
                  have HBD := Lib.hid (hBC.later LCD)
                  have HZD := Lib.hid (hZC.later LCD)
                  have HVD := Lib.hid BVD
                  have HLD := Lib.hid (hLC.trans (LCD.mono hLC.size))
                  clear hWD BV BVD LCD hBC hZC hLC bC HBB HZB HLB HRLB
                  go_wp2_with (first
                    | (have TX1 := THV
                       refine wpList_store_mid rfl 23 (.tmp 12) (.tmp 99) rfl wC.heap.size 0 #[.int .i64 p1, .int .i64 p2, .int .i64 p3] rfl rfl TX1 info_rtfrom (by simp [Value.oneCell']) ?_
                       simp only [Act.put, List.setIfInBounds_toArray, List.set_cons_zero, List.set_cons_succ]
                       rw [← HWD.out]
                       clear THV TX1 HWD)
                    | fail)
                  have HFR := Lib.hid (fun wx => rtfrom_any (p1, p2, p3) wx)
                  have HEQ := Lib.hid (fun wx => eq_rrtq 9998 (p1, p2, p3) (p1, p2, p3) wx)
                  rw [decide_eq_true rfl] at HEQ
                  refine wp_region_steady [] 124 (by kernel_rfl) (by kernel_rfl) (by kernel_rfl) (by rfl) ?_
                  refine wpG_run (by rfl) (by rfl) (.agg #[.int .i64 p1, .int .i64 p2, .int .i64 p3]) (fun wx hl => exec_load 25 (.tmp 10) rfl wA.heap.size 0 rfl [.int .i64 p1, .int .i64 p2, .int .i64 p3] _ ((HZD.out.later hl.1).range 0 _ rfl) hu rfl info_rtto) ?_
                  simp only [Act.put, List.setIfInBounds_toArray, List.set_cons_zero, List.set_cons_succ]
                  refine wpG_call (by rfl) (by rfl) 14 #[.agg #[.int .i64 p1, .int .i64 p2, .int .i64 p3]] (.agg #[.int .i64 p1, .int .i64 p2, .int .i64 p3]) (by intro _; simp [go_sem]) (by kernel_rfl) (fun wx _ => HFR.out wx) ?_
                  simp only [Act.put, List.setIfInBounds_toArray, List.set_cons_zero, List.set_cons_succ]
                  refine wpG_run (by rfl) (by rfl) (.agg #[.int .i64 p1, .int .i64 p2, .int .i64 p3]) (fun wx hl => exec_load 23 (.tmp 12) rfl wC.heap.size 0 rfl [.int .i64 p1, .int .i64 p2, .int .i64 p3] _ ((HVD.out.later hl.1).range 0 _ rfl) hur rfl info_rtfrom) ?_
                  simp only [Act.put, List.setIfInBounds_toArray, List.set_cons_zero, List.set_cons_succ]
                  refine wpG_run (by rfl) (by rfl) (.bool (!true)) (fun wx hl => exec_neq 23 _ (.tmp 102) (.tmp 103) rfl #[.int .i64 p1, .int .i64 p2, .int .i64 p3] #[.int .i64 p1, .int .i64 p2, .int .i64 p3] rfl rfl (by kernel_rfl) true (HEQ.out wx)) ?_
                  simp only [Act.put, List.setIfInBounds_toArray, List.set_cons_zero, List.set_cons_succ]
                  simp only [Bool.not_true]
                  iterate 3 (refine wpG_quiet (by rfl) (by rfl) (by rfl) (fun K hK => ?_); go_big_quiet_op; refine hK _ ?_; clear hK K)
                  refine wpG_run (by rfl) (by rfl) (.bool false) (fun wx hl => by simp [go_sem]) ?_
                  simp only [Act.put, List.setIfInBounds_toArray, List.set_cons_zero, List.set_cons_succ]
                  iterate 1 (refine wpG_quiet (by rfl) (by rfl) (by rfl) (fun K hK => ?_); go_big_quiet_op; refine hK _ ?_; clear hK K)
                  refine wpG_nil fun wE hl _ => ?_
                  have HBE := Lib.hid (HBD.out.later hl)
                  have HLE := Lib.hid (HLD.out.trans (hl.mono HLD.out.size))
                  clear hl HBD HZD HVD HLD HFR HEQ
                  go_wp2_with fail
                  go_roundw
                  case rel => exact ⟨k + 1, by omega, by go_num, r1, q1, p0', D1, HBE, HDF, HLE⟩
                  case measure => simp [intOf]; omega
                · have e2 : (xk == 2) = false := by rw [beq_eq_false_iff_ne]; exact k2
                  clear k0 k1 k2
                  have c1' := HYW.out.cell (j := 1) rfl
                  obtain ⟨tl, htl⟩ : ∃ tl, xt = str tl := ⟨xt.data.toList, (str_eta xt).symm⟩
                  have htl2 : tl.length ≤ maxLen := by have := HXT.out; rw [htl, str_size] at this; exact this
                  have hbits := dwrite_bits D xn tl HD.out.1 HD.out.2.1
                  have HWR := Lib.hid (write_any w.heap.size (w.heap.size + 1) w.heap.size r D xn tl WS HBW.out.dk HD.out.2.1 htl2 (by have := HD.out.2.2.1; omega) HLW.out.size)
                  have HRW : Hid (∀ wx, RfAt wx w.heap.size w2.heap.size q p D → w.heap.size ≤ wx.heap.size → Calls Try.prog 23 #[.pointer (some ⟨w2.heap.size, 0, none⟩), .int .i64 xn, .string (str tl)] wx fun e w' => e = .returned (.int .i64 (dwrite D xn tl).2) ∧ ∃ p', RfAt w' w.heap.size w2.heap.size q p' (dwrite D xn tl).1 ∧ Turn3 wx w' w2.heap.size w2.heap.size none ∧ RowN wx p p') := Lib.hid (fun wx hr hz => rwrite_any w.heap.size w2.heap.size q p D xn tl wx hr HD.out.2.1 htl2 (by have := HD.out.2.2.1; omega) (by have := HD.out.2.2.2; have := HNB.out; omega) hz)
                  rw [← htl] at HWR HRW
                  have HDF : Hid (DIn (dwrite D xn tl).1 ∧ (-9223372036854775808 ≤ (dwrite D xn tl).1.fuse ∧ (dwrite D xn tl).1.fuse ≤ 9223372036854775807) ∧ (dwrite D xn tl).1.w.length ≤ k + 1 ∧ (dwrite D xn tl).1.s.length = n) := Lib.hid ⟨hbits.1, hbits.2.1, Nat.le_trans hbits.2.2.1 (Nat.succ_le_succ HD.out.2.2.1), hbits.2.2.2.trans HD.out.2.2.2⟩
                  generalize dwrite D xn tl = D1 at HWR HRW HDF
                  obtain ⟨D1, er1⟩ := D1
                  dsimp only at HWR HRW HDF
                  clear htl htl2 hbits
                  go_wp2_with (first
                    | (have RG1 := hrg
                       refine wpList_load_mid rfl 47 (.tmp 36) rfl b1 (o1 + k * 7) rfl [.int .i64 xk, .int .i64 xn, .int .i64 xs, .int .i64 xl, .int .i64 xh, .slice A5 n5 c5, .string xt] _ RG1 hua rfl info_ra ?_
                       simp only [Act.put, List.setIfInBounds_toArray, List.set_cons_zero, List.set_cons_succ]
                       clear hrg RG1)
                    | (have TX1 := THY
                       refine wpList_store_mid rfl 47 (.tmp 9) (.tmp 37) rfl wr.heap.size 0 #[.int .i64 xk, .int .i64 xn, .int .i64 xs, .int .i64 xl, .int .i64 xh, .slice A5 n5 c5, .string xt] rfl rfl TX1 info_ra (by simp [Value.oneCell']) ?_
                       simp only [Act.put, List.setIfInBounds_toArray, List.set_cons_zero, List.set_cons_succ]
                       rw [← HWS.out]
                       clear THY TX1 HWS)
                    | fail)
                  refine HWR.out.mono ?_
                  rintro e w4 ⟨rfl, r1, H4, T4, R4⟩
                  have hY4 := T4.blk HYW.out HNE.out.1 HNE.out.2.1 HNE.out.2.2.1
                  have d1' := hY4.cell (j := 1) rfl
                  have d6' := hY4.cell (j := 6) rfl
                  have M4 := HBW.out.mid T4
                  have hz4 : w.heap.size ≤ w4.heap.size := Nat.le_trans HLW.out.size T4.size
                  have H4 := Lib.hid H4
                  have T4 := Lib.hid T4
                  have R4 := Lib.hid R4
                  have M4 := Lib.hid M4
                  clear c0 c1' c5' c6' hY4 HWR
                  go_wp2_with fail
                  refine (HRW.out w4 M4.out hz4).mono ?_
                  rintro e wS ⟨rfl, p0', H5, T5, P5⟩
                  obtain ⟨q1, hq1⟩ : ∃ q1, q1 = q := ⟨_, rfl⟩
                  have HBS : Hid (Both wS w.heap.size (w.heap.size + 1) w.heap.size r1 w2.heap.size q1 p0' D1) := Lib.hid (by rw [hq1]; exact HBW.out.step H4.out T4.out R4.out H5 T5 (RowN.refl _ _) P5)
                  have HLS := Lib.hid (HLW.out.trans (HBW.out.below T4.out T5 HLW.out.size))
                  clear hq1 H5 T5 P5 H4 T4 R4 M4 hz4 d1' d6' HRW HBW HLW HYW HKE HD HNE
                  have HLD := Lib.hid (load_any w.heap.size (w.heap.size + 1) w.heap.size r1 D1 wS HBS.out.dk (by have := HDF.out.2.2.1; omega))
                  go_wp2_with fail
                  refine HLD.out.mono ?_
                  rintro e wA ⟨rfl, bA⟩
                  have hBA := HBS.out.later bA
                  have hLA := HLS.out.trans (bA.mono HLS.out.size)
                  have HRL : Hid (∀ A c A' c' wx, Sees wx wx.heap.size A (stc D1.s) → Sees wx wx.heap.size A' (rws wtl D1.w) → Calls Try.prog 25 #[.agg #[.slice A D1.s.length c, .slice A' D1.w.length c', .int .i64 D1.fuse, .bool D1.dead]] wx fun e w' => e = .returned (.tuple #[.agg (rtc (rload D1).1).toArray, .int .i64 (rload D1).2]) ∧ Below wx.heap.size wx w') := Lib.hid (fun A c A' c' wx h1 h2 => rrload_any A A' c c' D1 wx h1 h2 (by have := HDF.out.2.2.2; omega) (by have := HDF.out.2.2.1; omega))
                  generalize hrl : rload D1 = y at HRL
                  clear HLD bA HBS HLS hrl
                  obtain ⟨⟨p1, p2, p3⟩, er⟩ := y
                  have HRL : Hid (∀ A c A' c' wx, Sees wx wx.heap.size A (stc D1.s) → Sees wx wx.heap.size A' (rws wtl D1.w) → Calls Try.prog 25 #[.agg #[.slice A D1.s.length c, .slice A' D1.w.length c', .int .i64 D1.fuse, .bool D1.dead]] wx fun e w' => e = .returned (.tuple #[.agg #[.int .i64 p1, .int .i64 p2, .int .i64 p3], .int .i64 er]) ∧ Below wx.heap.size wx w') := HRL
                  have BZ := Blk.new wA [.int .i64 0, .int .i64 0, .int .i64 0] 25
                  have THZ := BZ.there 0 3 (by simp)
                  have BZB : Blk ((wA.alloc (.cells #[.int .i64 0, .int .i64 0, .int .i64 0] 25)).setCells wA.heap.size 0 [.int .i64 p1, .int .i64 p2, .int .i64 p3]) wA.heap.size [.int .i64 p1, .int .i64 p2, .int .i64 p3] := BZ.sets [.int .i64 p1, .int .i64 p2, .int .i64 p3] 0 (by simp)
                  have LAB : Below wA.heap.size wA ((wA.alloc (.cells #[.int .i64 0, .int .i64 0, .int .i64 0] 25)).setCells wA.heap.size 0 [.int .i64 p1, .int .i64 p2, .int .i64 p3]) := below_sets (Nat.le_refl _) _ 0 ((Below.refl wA.heap.size wA).alloc (Nat.le_refl _) _)
                  obtain ⟨WB, hWB⟩ : ∃ WB, WB = (wA.alloc (.cells #[.int .i64 0, .int .i64 0, .int .i64 0] 25)).setCells wA.heap.size 0 [.int .i64 p1, .int .i64 p2, .int .i64 p3] := ⟨_, rfl⟩
                  rw [← hWB] at BZB LAB
                  have HWB := Lib.hid hWB
                  have hBB := hBA.later LAB
                  have HLB := Lib.hid (hLA.trans (LAB.mono hLA.size))
                  obtain ⟨A6, c6, A7, c7, RBD, mr1, mr2⟩ := hBB.rf.hand
                  have HRLB := Lib.hid (HRL.out A6 c6 A7 c7 WB mr1 mr2)
                  have HBB := Lib.hid hBB
                  have HZB := Lib.hid BZB
                  clear hWB BZ BZB LAB hBA hLA hBB mr1 mr2 HRL
                  obtain ⟨ls, hls⟩ : ∃ ls, ls = D1.s.length := ⟨_, rfl⟩
                  obtain ⟨lw, hlw⟩ : ∃ lw, lw = D1.w.length := ⟨_, rfl⟩
                  obtain ⟨fu, hfu⟩ : ∃ fu, fu = D1.fuse := ⟨_, rfl⟩
                  obtain ⟨dd, hdd⟩ : ∃ dd, dd = D1.dead := ⟨_, rfl⟩
                  rw [← hls, ← hlw, ← hfu, ← hdd] at RBD HRLB
                  clear hls hlw hfu hdd
                  go_wp2_with (first
                    | (have TX1 := THZ
                       refine wpList_store_mid rfl 25 (.tmp 10) (.tmp 94) rfl wA.heap.size 0 #[.int .i64 p1, .int .i64 p2, .int .i64 p3] rfl rfl TX1 info_rtto (by simp [Value.oneCell']) ?_
                       simp only [Act.put, List.setIfInBounds_toArray, List.set_cons_zero, List.set_cons_succ]
                       rw [← HWB.out]
                       clear THZ TX1 HWB)
                    | (have RB1 := RBD
                       refine wpList_load_mid rfl 43 (.tmp 7) rfl w2.heap.size 0 rfl [.slice A6 ls c6, .slice A7 lw c7, .int .i64 fu, .bool dd] _ RB1 hud rfl info_rd ?_
                       simp only [Act.put, List.setIfInBounds_toArray, List.set_cons_zero, List.set_cons_succ]
                       clear RBD RB1)
                    | fail)
                  refine HRLB.out.mono ?_
                  rintro e wC ⟨rfl, bC⟩
                  have hBC := HBB.out.later bC
                  have hZC := HZB.out.later bC
                  have hLC := HLB.out.trans (bC.mono HLB.out.size)
                  have BV := Blk.new wC [.int .i64 0, .int .i64 0, .int .i64 0] 23
                  have THV := BV.there 0 3 (by simp)
                  have BVD : Blk ((wC.alloc (.cells #[.int .i64 0, .int .i64 0, .int .i64 0] 23)).setCells wC.heap.size 0 [.int .i64 p1, .int .i64 p2, .int .i64 p3]) wC.heap.size [.int .i64 p1, .int .i64 p2, .int .i64 p3] := BV.sets [.int .i64 p1, .int .i64 p2, .int .i64 p3] 0 (by simp)
                  have LCD : Below wC.heap.size wC ((wC.alloc (.cells #[.int .i64 0, .int .i64 0, .int .i64 0] 23)).setCells wC.heap.size 0 [.int .i64 p1, .int .i64 p2, .int .i64 p3]) := below_sets (Nat.le_refl _) _ 0 ((Below.refl wC.heap.size wC).alloc (Nat.le_refl _) _)
                  obtain ⟨WD, hWD⟩ : ∃ WD, WD = (wC.alloc (.cells #[.int .i64 0, .int .i64 0, .int .i64 0] 23)).setCells wC.heap.size 0 [.int .i64 p1, .int .i64 p2, .int .i64 p3] := ⟨_, rfl⟩
                  rw [← hWD] at BVD LCD
                  have HWD := Lib.hid hWD
                  have HBD := Lib.hid (hBC.later LCD)
                  have HZD := Lib.hid (hZC.later LCD)
                  have HVD := Lib.hid BVD
                  have HLD := Lib.hid (hLC.trans (LCD.mono hLC.size))
                  clear hWD BV BVD LCD hBC hZC hLC bC HBB HZB HLB HRLB
                  go_wp2_with (first
                    | (have TX1 := THV
                       refine wpList_store_mid rfl 23 (.tmp 12) (.tmp 99) rfl wC.heap.size 0 #[.int .i64 p1, .int .i64 p2, .int .i64 p3] rfl rfl TX1 info_rtfrom (by simp [Value.oneCell']) ?_
                       simp only [Act.put, List.setIfInBounds_toArray, List.set_cons_zero, List.set_cons_succ]
                       rw [← HWD.out]
                       clear THV TX1 HWD)
                    | fail)
                  have HFR := Lib.hid (fun wx => rtfrom_any (p1, p2, p3) wx)
                  have HEQ := Lib.hid (fun wx => eq_rrtq 9998 (p1, p2, p3) (p1, p2, p3) wx)
                  rw [decide_eq_true rfl] at HEQ
                  refine wp_region_steady [] 124 (by kernel_rfl) (by kernel_rfl) (by kernel_rfl) (by rfl) ?_
                  refine wpG_run (by rfl) (by rfl) (.agg #[.int .i64 p1, .int .i64 p2, .int .i64 p3]) (fun wx hl => exec_load 25 (.tmp 10) rfl wA.heap.size 0 rfl [.int .i64 p1, .int .i64 p2, .int .i64 p3] _ ((HZD.out.later hl.1).range 0 _ rfl) hu rfl info_rtto) ?_
                  simp only [Act.put, List.setIfInBounds_toArray, List.set_cons_zero, List.set_cons_succ]
                  refine wpG_call (by rfl) (by rfl) 14 #[.agg #[.int .i64 p1, .int .i64 p2, .int .i64 p3]] (.agg #[.int .i64 p1, .int .i64 p2, .int .i64 p3]) (by intro _; simp [go_sem]) (by kernel_rfl) (fun wx _ => HFR.out wx) ?_
                  simp only [Act.put, List.setIfInBounds_toArray, List.set_cons_zero, List.set_cons_succ]
                  refine wpG_run (by rfl) (by rfl) (.agg #[.int .i64 p1, .int .i64 p2, .int .i64 p3]) (fun wx hl => exec_load 23 (.tmp 12) rfl wC.heap.size 0 rfl [.int .i64 p1, .int .i64 p2, .int .i64 p3] _ ((HVD.out.later hl.1).range 0 _ rfl) hur rfl info_rtfrom) ?_
                  simp only [Act.put, List.setIfInBounds_toArray, List.set_cons_zero, List.set_cons_succ]
                  refine wpG_run (by rfl) (by rfl) (.bool (!true)) (fun wx hl => exec_neq 23 _ (.tmp 102) (.tmp 103) rfl #[.int .i64 p1, .int .i64 p2, .int .i64 p3] #[.int .i64 p1, .int .i64 p2, .int .i64 p3] rfl rfl (by kernel_rfl) true (HEQ.out wx)) ?_
                  simp only [Act.put, List.setIfInBounds_toArray, List.set_cons_zero, List.set_cons_succ]
                  simp only [Bool.not_true]
                  iterate 3 (refine wpG_quiet (by rfl) (by rfl) (by rfl) (fun K hK => ?_); go_big_quiet_op; refine hK _ ?_; clear hK K)
                  refine wpG_run (by rfl) (by rfl) (.bool false) (fun wx hl => by simp [go_sem]) ?_
                  simp only [Act.put, List.setIfInBounds_toArray, List.set_cons_zero, List.set_cons_succ]
                  iterate 1 (refine wpG_quiet (by rfl) (by rfl) (by rfl) (fun K hK => ?_); go_big_quiet_op; refine hK _ ?_; clear hK K)
                  refine wpG_nil fun wE hl _ => ?_
                  have HBE := Lib.hid (HBD.out.later hl)
                  have HLE := Lib.hid (HLD.out.trans (hl.mono HLD.out.size))
                  clear hl HBD HZD HVD HLD HFR HEQ
                  go_wp2_with fail
                  go_roundw
                  case rel => exact ⟨k + 1, by omega, by go_num, r1, q1, p0', D1, HBE, HDF, HLE⟩
                  case measure => simp [intOf]; omega
      · have y2i : decide ((k : Int) < 60) = false := decide_eq_false (by omega)
        clear HB HD
        go_wp2_with fail
        refine (load_nil _).mono ?_
        rintro e w3 ⟨rfl, b3⟩
        have HL3 := Lib.hid (HL.out.trans (b3.mono HL.out.size))
        have THE := (Blk.new w3 [.int .i64 0, .int .i64 0, .int .i64 0] 25).there 0 3 (by simp)
        have LE4 : Below w3.heap.size w3 ((w3.alloc (.cells #[.int .i64 0, .int .i64 0, .int .i64 0] 25)).setCells w3.heap.size 0 [.int .i64 0, .int .i64 0, .int .i64 0]) := below_sets (Nat.le_refl _) _ 0 ((Below.refl w3.heap.size w3).alloc (Nat.le_refl _) _)
        obtain ⟨WE, hWE⟩ : ∃ WE, WE = (w3.alloc (.cells #[.int .i64 0, .int .i64 0, .int .i64 0] 25)).setCells w3.heap.size 0 [.int .i64 0, .int .i64 0, .int .i64 0] := ⟨_, rfl⟩
        rw [← hWE] at LE4
        have HWE := Lib.hid hWE
        have HLE := Lib.hid (HL3.out.trans (LE4.mono HL3.out.size))
        clear hWE LE4 b3
        go_wp2_with (first
          | (have TX1 := THE
             refine wpList_store_mid rfl 25 (.tmp 14) (.tmp 112) rfl w3.heap.size 0 #[.int .i64 0, .int .i64 0, .int .i64 0] rfl rfl TX1 info_rtto (by simp [Value.oneCell']) ?_
             simp only [Act.put, List.setIfInBounds_toArray, List.set_cons_zero, List.set_cons_succ]
             rw [← HWE.out]
             clear THE TX1 HWE)
          | fail)
        refine (store_nil (1, 1, 0) _).mono ?_
        rintro e w4 ⟨rfl, b4⟩
        have HL4 := Lib.hid (HLE.out.trans (b4.mono HLE.out.size))
        clear b4
        go_wp2_with fail
        refine (rt_awake _).mono ?_
        rintro e w5 ⟨rfl, b5⟩
        have HL5 := Lib.hid (HL4.out.trans (b5.mono HL4.out.size))
        clear b5
        go_wp2_with fail
        go_ret
        exact ⟨rfl, HL5.out⟩
    · have y1i : decide ((k : Int) < (n0 : Int)) = false := decide_eq_false (by omega)
      clear HB HD
      go_wp2_with fail
      refine (load_nil _).mono ?_
      rintro e w3 ⟨rfl, b3⟩
      have HL3 := Lib.hid (HL.out.trans (b3.mono HL.out.size))
      have THE := (Blk.new w3 [.int .i64 0, .int .i64 0, .int .i64 0] 25).there 0 3 (by simp)
      have LE4 : Below w3.heap.size w3 ((w3.alloc (.cells #[.int .i64 0, .int .i64 0, .int .i64 0] 25)).setCells w3.heap.size 0 [.int .i64 0, .int .i64 0, .int .i64 0]) := below_sets (Nat.le_refl _) _ 0 ((Below.refl w3.heap.size w3).alloc (Nat.le_refl _) _)
      obtain ⟨WE, hWE⟩ : ∃ WE, WE = (w3.alloc (.cells #[.int .i64 0, .int .i64 0, .int .i64 0] 25)).setCells w3.heap.size 0 [.int .i64 0, .int .i64 0, .int .i64 0] := ⟨_, rfl⟩
      rw [← hWE] at LE4
      have HWE := Lib.hid hWE
      have HLE := Lib.hid (HL3.out.trans (LE4.mono HL3.out.size))
      clear hWE LE4 b3
      go_wp2_with (first
        | (have TX1 := THE
           refine wpList_store_mid rfl 25 (.tmp 14) (.tmp 112) rfl w3.heap.size 0 #[.int .i64 0, .int .i64 0, .int .i64 0] rfl rfl TX1 info_rtto (by simp [Value.oneCell']) ?_
           simp only [Act.put, List.setIfInBounds_toArray, List.set_cons_zero, List.set_cons_succ]
           rw [← HWE.out]
           clear THE TX1 HWE)
        | fail)
      refine (store_nil (1, 1, 0) _).mono ?_
      rintro e w4 ⟨rfl, b4⟩
      have HL4 := Lib.hid (HLE.out.trans (b4.mono HLE.out.size))
      clear b4
      go_wp2_with fail
      refine (rt_awake _).mono ?_
      rintro e w5 ⟨rfl, b5⟩
      have HL5 := Lib.hid (HL4.out.trans (b5.mono HL4.out.size))
      clear b5
      go_wp2_with fail
      go_ret
      exact ⟨rfl, HL5.out⟩
end Go.Proofs.Ytncbhpopobjaiaa
