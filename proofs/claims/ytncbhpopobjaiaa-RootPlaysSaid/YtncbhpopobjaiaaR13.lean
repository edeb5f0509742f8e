/- Roots: the root of the document's disk. -/
import Derived.Test.YtncbhpopobjaiaaR9
import Derived.Test.YtncbhpopobjaiaaR11
import Derived.Test.YtncbhpopobjaiaaR12
import Derived.Test.YtncbhpopobjaiaaR5
import Derived.Test.YtncbhpopobjaiaaR10
namespace Go.Proofs.Ytncbhpopobjaiaa
set_option linter.unusedVariables false
set_option linter.unusedSimpArgs false
open Go Go.RowKit SumM OctM

set_option maxRecDepth 100000 in
set_option maxHeartbeats 6400000 in
theorem rrload_any (A A' : Option Addr) (c c' : Nat) (D : Dk) (w : World) (h1 : Sees w w.heap.size A (stc D.s)) (h2 : Sees w w.heap.size A' (rws wtl D.w)) (hs : D.s.length ≤ 65536) (hw : D.w.length ≤ 65536) :
    Calls Try.prog 25 #[.agg #[.slice A D.s.length c, .slice A' D.w.length c', .int .i64 D.fuse, .bool D.dead]] w fun e w' => e = .returned (.tuple #[.agg (rtc (rload D).1).toArray, .int .i64 (rload D).2]) ∧ Below w.heap.size w w' := by
  have hu := Try.underlying23
  have hud := Try.underlying43
  have HRR : Hid (∀ (k : Nat) wx, Below w.heap.size w wx → Calls Try.prog 47 #[.agg #[.slice A D.s.length c, .slice A' D.w.length c', .int .i64 D.fuse, .bool D.dead], .int .i64 (k : Int)] wx fun e w' => e = .returned (.tuple #[.string (str (dread D k).1), .int .i64 (dread D k).2]) ∧ Below wx.heap.size wx w') := Lib.hid (fun k wx hb => rread_any A A' c c' D k wx ((h1.below hb).more hb.size) ((h2.below hb).more hb.size) hs hw)
  have HLN := Lib.hid (fun k : Nat => dread_len D k)
  obtain ⟨ns, hns⟩ : ∃ ns, ns = D.s.length := ⟨_, rfl⟩
  obtain ⟨nw, hnw⟩ : ∃ nw, nw = D.w.length := ⟨_, rfl⟩
  obtain ⟨fu, hfu⟩ : ∃ fu, fu = D.fuse := ⟨_, rfl⟩
  obtain ⟨dd, hdd⟩ : ∃ dd, dd = D.dead := ⟨_, rfl⟩
  rw [← hns, ← hnw, ← hfu, ← hdd] at HRR
  rw [← hns, ← hnw, ← hfu, ← hdd]
  have HRL : Hid (rload D = if dd = true then (rt0, 15) else if (rbest D 2).1 = 0 then (rt0, 16) else (rbest D 2, 0)) := Lib.hid (by unfold rload; rw [hdd])
  clear hns hnw hfu hdd h1 h2 hs hw
  have BD0 := Blk.new w [.slice A ns c, .slice A' nw c', .int .i64 fu, .bool dd] 43
  have L0 := (Below.refl w.heap.size w).alloc (Nat.le_refl _) (.cells #[.slice A ns c, .slice A' nw c', .int .i64 fu, .bool dd] 43)
  obtain ⟨V0, hV0⟩ : ∃ V0, V0 = w.alloc (.cells #[.slice A ns c, .slice A' nw c', .int .i64 fu, .bool dd] 43) := ⟨_, rfl⟩
  have z0 : V0.heap.size = w.heap.size + 1 := by rw [hV0]; simp
  rw [← hV0] at BD0 L0
  have BR1 := Blk.new V0 [.int .i64 0, .int .i64 0, .int .i64 0] 23
  rw [z0] at BR1
  have BD1 := BD0.alloc (.cells #[.int .i64 0, .int .i64 0, .int .i64 0] 23)
  have L1 := L0.alloc (by omega) (.cells #[.int .i64 0, .int .i64 0, .int .i64 0] 23)
  obtain ⟨V1, hV1⟩ : ∃ V1, V1 = V0.alloc (.cells #[.int .i64 0, .int .i64 0, .int .i64 0] 23) := ⟨_, rfl⟩
  have z1 : V1.heap.size = w.heap.size + 2 := by rw [hV1]; simp [z0]
  rw [← hV1] at BR1 BD1 L1
  have HV : Hid (V1 = (w.alloc (.cells #[.slice A ns c, .slice A' nw c', .int .i64 fu, .bool dd] 43)).alloc (.cells #[.int .i64 0, .int .i64 0, .int .i64 0] 23)) := Lib.hid (by rw [hV1, hV0])
  clear hV0 hV1 BD0 L0 z0
  have kd := BD1.cell (j := 3) rfl
  cases dd with
  | true =>
    have HR : Hid (rload D = (rt0, 15)) := Lib.hid (by rw [HRL.out, if_pos rfl])
    have TH := BR1.there 0 3 (by simp)
    have HBZ : Hid (Blk (V1.setCells (w.heap.size + 1) 0 [.int .i64 0, .int .i64 0, .int .i64 0]) (w.heap.size + 1) [.int .i64 0, .int .i64 0, .int .i64 0]) := Lib.hid (BR1.sets [.int .i64 0, .int .i64 0, .int .i64 0] 0 (by simp))
    have HLZ := Lib.hid (below_sets (Nat.le_succ w.heap.size) [.int .i64 0, .int .i64 0, .int .i64 0] 0 L1)
    rw [HV.out] at TH HBZ HLZ kd
    clear HRL HRR BR1 BD1 L1 z1
    go_enter Try.func25, Try.ntmps25
    go_wp2_with (first
      | (refine wpList_store_mid rfl 23 (.tmp 2) (.tmp 12) rfl (w.heap.size + 1) 0 #[.int .i64 0, .int .i64 0, .int .i64 0] rfl rfl TH info_rtfrom (by simp [Value.oneCell']) ?_
         simp only [Act.put, List.setIfInBounds_toArray, List.set_cons_zero, List.set_cons_succ])
      | fail)
    exact bodyPost_ret (v := .tuple #[.agg #[.int .i64 0, .int .i64 0, .int .i64 0], .int .i64 15]) (results_rows_tmp rfl _ _ (w.heap.size + 1) [.int .i64 0, .int .i64 0, .int .i64 0] _ (.int .i64 15) rfl rfl HBZ.out hu rfl info_rtfrom) rfl ⟨by rw [HR.out]; rfl, HLZ.out⟩
  | false =>
    have HR : Hid (rload D = if (rbest D 2).1 = 0 then (rt0, 16) else (rbest D 2, 0)) := Lib.hid (by rw [HRL.out, if_neg (by decide)])
    have BX2 := Blk.new V1 [.int .i64 0, .int .i64 0, .int .i64 0] 23
    have TH2 := BX2.there 0 3 (by simp)
    have BX3 := BX2.sets [.int .i64 0, .int .i64 0, .int .i64 0] 0 (by simp)
    have BX3 : Blk ((V1.alloc (.cells #[.int .i64 0, .int .i64 0, .int .i64 0] 23)).setCells V1.heap.size 0 [.int .i64 0, .int .i64 0, .int .i64 0]) V1.heap.size [.int .i64 0, .int .i64 0, .int .i64 0] := BX3
    have BR3 := Blk.setsOther (b := V1.heap.size) (by omega) [.int .i64 0, .int .i64 0, .int .i64 0] 0 (BR1.alloc (.cells #[.int .i64 0, .int .i64 0, .int .i64 0] 23))
    have BD3 := Blk.setsOther (b := V1.heap.size) (by omega) [.int .i64 0, .int .i64 0, .int .i64 0] 0 (BD1.alloc (.cells #[.int .i64 0, .int .i64 0, .int .i64 0] 23))
    have L3 := below_sets (show w.heap.size ≤ V1.heap.size by omega) [.int .i64 0, .int .i64 0, .int .i64 0] 0 (L1.alloc (by omega) (.cells #[.int .i64 0, .int .i64 0, .int .i64 0] 23))
    rw [z1] at TH2 BX3 BR3 BD3 L3
    obtain ⟨V3, hV3⟩ : ∃ V3, V3 = (V1.alloc (.cells #[.int .i64 0, .int .i64 0, .int .i64 0] 23)).setCells (w.heap.size + 2) 0 [.int .i64 0, .int .i64 0, .int .i64 0] := ⟨_, rfl⟩
    rw [← hV3] at BX3 BR3 BD3 L3
    rw [HV.out] at hV3 TH2 kd
    have HV3 := Lib.hid hV3
    have HX3 := Lib.hid BX3
    have HB3 := Lib.hid BR3
    have HD3 := Lib.hid BD3
    have HL3 := Lib.hid L3
    clear HRL BR1 BD1 L1 z1 BX2 BX3 BR3 BD3 L3 hV3 HV
    go_enter Try.func25, Try.ntmps25
    go_wp2_with (first
      | (have TY1 := TH2
         refine wpList_store_mid rfl 23 (.tmp 4) (.tmp 13) rfl (w.heap.size + 2) 0 #[.int .i64 0, .int .i64 0, .int .i64 0] rfl rfl TY1 info_rtfrom (by simp [Value.oneCell']) ?_
         simp only [Act.put, List.setIfInBounds_toArray, List.set_cons_zero, List.set_cons_succ]
         rw [← HV3.out]
         clear TH2 TY1)
      | fail)
    go_loopw [5] (fun i wr => ∃ k : Nat, k ≤ 2 ∧ i = .int .i64 (k : Int) ∧ Hid (Blk wr w.heap.size [.slice A ns c, .slice A' nw c', .int .i64 fu, .bool false]) ∧ Hid (Blk wr (w.heap.size + 1) [.int .i64 0, .int .i64 0, .int .i64 0]) ∧ Hid (Blk wr (w.heap.size + 2) [.int .i64 (rbest D k).1, .int .i64 (rbest D k).2.1, .int .i64 (rbest D k).2.2]) ∧ Hid (Below w.heap.size w wr)) (fun i _ => (2 - intOf i).toNat)
    case atStart => exact ⟨0, by omega, rfl, HD3, HB3, HX3, HL3⟩
    case round =>
      clear HD3 HB3 HX3 HL3 HV3
      obtain ⟨k, hk, rfl, HD, HB, HX, HL⟩ := hrel
      by_cases hlt : k < 2
      · have hlti : decide ((k : Int) < 2) = true := decide_eq_true (by omega)
        have HP : Hid (rbest D (k + 1) = rpick D (rbest D k) (k : Int)) := Lib.hid rfl
        have HR1 := Lib.hid (HRR.out k wr HL.out)
        have hln := HLN.out k
        generalize hbb : rbest D k = bb at HX HP
        unfold rpick at HP
        generalize dread D (k : Int) = o at HR1 HP hln
        obtain ⟨so, eo⟩ := o
        dsimp only at HR1 HP hln
        obtain ⟨sv, hsv⟩ : ∃ sv, sv = str so := ⟨_, rfl⟩
        have HGT : Hid (∀ wx, Calls Try.prog 8 #[.string sv] wx fun e w' => e = .returned (.tuple #[.agg (rtc (rget so).1).toArray, .bool (rget so).2]) ∧ Below wx.heap.size wx w') := Lib.hid (fun wx => by rw [hsv]; exact rrtget_any so wx (by omega))
        rw [← hsv] at HR1
        clear hsv hln hbb
        obtain ⟨bs, bl, bh⟩ := bb
        dsimp only at HX HP
        generalize hgg : rget so = gg at HGT HP
        clear hgg
        obtain ⟨⟨x1, x2, x3⟩, is⟩ := gg
        dsimp only at HGT HP
        have HGT : Hid (∀ wx, Calls Try.prog 8 #[.string sv] wx fun e w' => e = .returned (.tuple #[.agg #[.int .i64 x1, .int .i64 x2, .int .i64 x3], .bool is]) ∧ Below wx.heap.size wx w') := HGT
        have RBD := HD.out.range 0 [.slice A ns c, .slice A' nw c', .int .i64 fu, .bool false] rfl
        go_wp2_with (first
          | (refine wpList_load_mid rfl 43 (.tmp 1) rfl w.heap.size 0 rfl [.slice A ns c, .slice A' nw c', .int .i64 fu, .bool false] _ RBD hud rfl info_rd ?_
             simp only [Act.put, List.setIfInBounds_toArray, List.set_cons_zero, List.set_cons_succ])
          | fail)
        refine HR1.out.mono ?_
        rintro e w3 ⟨rfl, hb3⟩
        have HD3 := Lib.hid (HD.out.later hb3)
        have HB3 := Lib.hid (HB.out.later hb3)
        have HX3 := Lib.hid (HX.out.later hb3)
        have HL3 := Lib.hid (HL.out.trans (hb3.mono HL.out.size))
        clear hb3 HR1 HB HX HL HD RBD
        go_wp2_with fail
        refine (HGT.out w3).mono ?_
        rintro e w4 ⟨rfl, hb4⟩
        have HD4 := HD3.out.later hb4
        have HB4 := HB3.out.later hb4
        have HX4 := HX3.out.later hb4
        have HL4 := HL3.out.trans (hb4.mono HL3.out.size)
        have BY := Blk.new w4 [.int .i64 0, .int .i64 0, .int .i64 0] 23
        have THY := BY.there 0 3 (by simp)
        have BY5 : Blk ((w4.alloc (.cells #[.int .i64 0, .int .i64 0, .int .i64 0] 23)).setCells w4.heap.size 0 [.int .i64 x1, .int .i64 x2, .int .i64 x3]) w4.heap.size [.int .i64 x1, .int .i64 x2, .int .i64 x3] := BY.sets [.int .i64 x1, .int .i64 x2, .int .i64 x3] 0 (by simp)
        have HD5 := Blk.setsOther (b := w4.heap.size) (by have := HD4.lt; omega) [.int .i64 x1, .int .i64 x2, .int .i64 x3] 0 (HD4.alloc (.cells #[.int .i64 0, .int .i64 0, .int .i64 0] 23))
        have HB5 := Blk.setsOther (b := w4.heap.size) (by have := HB4.lt; omega) [.int .i64 x1, .int .i64 x2, .int .i64 x3] 0 (HB4.alloc (.cells #[.int .i64 0, .int .i64 0, .int .i64 0] 23))
        have HX5 := Blk.setsOther (b := w4.heap.size) (by have := HX4.lt; omega) [.int .i64 x1, .int .i64 x2, .int .i64 x3] 0 (HX4.alloc (.cells #[.int .i64 0, .int .i64 0, .int .i64 0] 23))
        have HL5 := below_sets HL4.size [.int .i64 x1, .int .i64 x2, .int .i64 x3] 0 (HL4.alloc HL4.size (.cells #[.int .i64 0, .int .i64 0, .int .i64 0] 23))
        obtain ⟨W5, hW5⟩ : ∃ W5, W5 = (w4.alloc (.cells #[.int .i64 0, .int .i64 0, .int .i64 0] 23)).setCells w4.heap.size 0 [.int .i64 x1, .int .i64 x2, .int .i64 x3] := ⟨_, rfl⟩
        rw [← hW5] at BY5 HD5 HB5 HX5 HL5
        have HW5 := Lib.hid hW5
        clear hW5
        have kY := BY5.cell (j := 0) rfl
        have kX := HX5.cell (j := 0) rfl
        have RB := BY5.range 0 [.int .i64 x1, .int .i64 x2, .int .i64 x3] rfl
        have THX := HX5.there 0 3 (by simp)
        have HX6 : Hid (Blk (World.setCells W5 (w.heap.size + 2) 0 [.int .i64 x1, .int .i64 x2, .int .i64 x3]) (w.heap.size + 2) [.int .i64 x1, .int .i64 x2, .int .i64 x3]) := Lib.hid (HX5.sets [.int .i64 x1, .int .i64 x2, .int .i64 x3] 0 (by simp))
        have HD6 := Lib.hid (Blk.setsOther (b := w.heap.size + 2) (by omega) [.int .i64 x1, .int .i64 x2, .int .i64 x3] 0 HD5)
        have HB6 := Lib.hid (Blk.setsOther (b := w.heap.size + 2) (by omega) [.int .i64 x1, .int .i64 x2, .int .i64 x3] 0 HB5)
        have HL6 := Lib.hid (below_sets (show w.heap.size ≤ w.heap.size + 2 by omega) [.int .i64 x1, .int .i64 x2, .int .i64 x3] 0 HL5)
        have HD5 := Lib.hid HD5
        have HB5 := Lib.hid HB5
        have HX5 := Lib.hid HX5
        have HL5 := Lib.hid HL5
        clear hb4 BY HD4 HB4 HX4 HL4 HD3 HB3 HX3 HL3 HGT BY5
        by_cases he : eo = 0
        · subst he
          by_cases hc : is = true ∧ bs < x1
          · have HQ : Hid (rbest D (k + 1) = (x1, x2, x3)) := Lib.hid (by rw [HP.out, if_pos ⟨by first | rfl | trivial, hc.1, hc.2⟩])
            obtain ⟨rfl, hc⟩ := hc
            have dc : decide (bs < x1) = true := decide_eq_true hc
            clear HP hc HD5 HB5 HX5 HL5
            go_wp2_with (first
              | (have TY1 := THY
                 refine wpList_store_mid rfl 23 (.tmp 8) (.tmp 27) rfl w4.heap.size 0 #[.int .i64 x1, .int .i64 x2, .int .i64 x3] rfl rfl TY1 info_rtfrom (by simp [Value.oneCell']) ?_
                 simp only [Act.put, List.setIfInBounds_toArray, List.set_cons_zero, List.set_cons_succ]
                 rw [← HW5.out]
                 clear THY TY1 HW5)
              | (have RB1 := RB
                 refine wpList_load_mid rfl 23 (.tmp 8) rfl w4.heap.size 0 rfl [.int .i64 x1, .int .i64 x2, .int .i64 x3] _ RB1 hu rfl info_rtfrom ?_
                 simp only [Act.put, List.setIfInBounds_toArray, List.set_cons_zero, List.set_cons_succ]
                 clear RB RB1)
              | (have TX1 := THX
                 refine wpList_store_mid rfl 23 (.tmp 4) (.tmp 41) rfl (w.heap.size + 2) 0 #[.int .i64 x1, .int .i64 x2, .int .i64 x3] rfl rfl TX1 info_rtfrom (by simp [Value.oneCell']) ?_
                 simp only [Act.put, List.setIfInBounds_toArray, List.set_cons_zero, List.set_cons_succ]
                 clear THX TX1)
              | fail)
            go_roundw
            case rel => exact ⟨k + 1, by omega, by go_num, HD6, HB6, by rw [HQ.out]; exact HX6, HL6⟩
            case measure => simp [intOf]; omega
          · have HQ : Hid (rbest D (k + 1) = (bs, bl, bh)) := Lib.hid (by rw [HP.out, if_neg (fun e => hc e.2)])
            clear HD6 HB6 HX6 HL6 THX RB HP
            cases is with
            | true =>
              have dc : decide (bs < x1) = false := decide_eq_false (fun e => hc ⟨rfl, e⟩)
              clear hc
              go_wp2_with (first
                | (have TY1 := THY
                   refine wpList_store_mid rfl 23 (.tmp 8) (.tmp 27) rfl w4.heap.size 0 #[.int .i64 x1, .int .i64 x2, .int .i64 x3] rfl rfl TY1 info_rtfrom (by simp [Value.oneCell']) ?_
                   simp only [Act.put, List.setIfInBounds_toArray, List.set_cons_zero, List.set_cons_succ]
                   rw [← HW5.out]
                   clear THY TY1 HW5)
                | fail)
              go_roundw
              case rel =>
                exact ⟨k + 1, by omega, by go_num, HD5, HB5, by rw [HQ.out]; exact HX5, HL5⟩
              case measure => simp [intOf]; omega
            | false =>
              clear hc
              go_wp2_with (first
                | (have TY1 := THY
                   refine wpList_store_mid rfl 23 (.tmp 8) (.tmp 27) rfl w4.heap.size 0 #[.int .i64 x1, .int .i64 x2, .int .i64 x3] rfl rfl TY1 info_rtfrom (by simp [Value.oneCell']) ?_
                   simp only [Act.put, List.setIfInBounds_toArray, List.set_cons_zero, List.set_cons_succ]
                   rw [← HW5.out]
                   clear THY TY1 HW5)
                | fail)
              go_roundw
              case rel =>
                exact ⟨k + 1, by omega, by go_num, HD5, HB5, by rw [HQ.out]; exact HX5, HL5⟩
              case measure => simp [intOf]; omega
        · have HQ : Hid (rbest D (k + 1) = (bs, bl, bh)) := Lib.hid (by rw [HP.out, if_neg (fun e => he e.1)])
          have ne : (eo == 0) = false := by rw [beq_eq_false_iff_ne]; exact he
          clear HD6 HB6 HX6 HL6 THX RB HP he
          go_wp2_with (first
            | (have TY1 := THY
               refine wpList_store_mid rfl 23 (.tmp 8) (.tmp 27) rfl w4.heap.size 0 #[.int .i64 x1, .int .i64 x2, .int .i64 x3] rfl rfl TY1 info_rtfrom (by simp [Value.oneCell']) ?_
               simp only [Act.put, List.setIfInBounds_toArray, List.set_cons_zero, List.set_cons_succ]
               rw [← HW5.out]
               clear THY TY1 HW5)
            | fail)
          go_roundw
          case rel =>
            exact ⟨k + 1, by omega, by go_num, HD5, HB5, by rw [HQ.out]; exact HX5, HL5⟩
          case measure => simp [intOf]; omega
      · obtain rfl : k = 2 := by omega
        have hlti : decide (((2 : Nat) : Int) < 2) = false := rfl
        have HR2 := HR
        generalize rbest D 2 = bb at HX HR2
        clear HR
        obtain ⟨bs, bl, bh⟩ := bb
        dsimp only at HX HR2
        have kX := HX.out.cell (j := 0) rfl
        have RB := HX.out.range 0 [.int .i64 bs, .int .i64 bl, .int .i64 bh] rfl
        have TH := HB.out.there 0 3 (by simp)
        by_cases h0 : bs = 0
        · have HR3 : Hid (rload D = (rt0, 16)) := Lib.hid (by rw [HR2.out, if_pos h0])
          subst h0
          have HBZ : Hid (Blk (wr.setCells (w.heap.size + 1) 0 [.int .i64 0, .int .i64 0, .int .i64 0]) (w.heap.size + 1) [.int .i64 0, .int .i64 0, .int .i64 0]) := Lib.hid (HB.out.sets [.int .i64 0, .int .i64 0, .int .i64 0] 0 (by simp))
          have HLZ := Lib.hid (below_sets (Nat.le_succ w.heap.size) [.int .i64 0, .int .i64 0, .int .i64 0] 0 HL.out)
          clear HR2 RB
          go_wp2_with (first
            | (refine wpList_store_mid rfl 23 (.tmp 2) (.tmp 45) rfl (w.heap.size + 1) 0 #[.int .i64 0, .int .i64 0, .int .i64 0] rfl rfl TH info_rtfrom (by simp [Value.oneCell']) ?_
               simp only [Act.put, List.setIfInBounds_toArray, List.set_cons_zero, List.set_cons_succ])
            | fail)
          exact bodyPost_ret (v := .tuple #[.agg #[.int .i64 0, .int .i64 0, .int .i64 0], .int .i64 16]) (results_rows_tmp rfl _ _ (w.heap.size + 1) [.int .i64 0, .int .i64 0, .int .i64 0] _ (.int .i64 16) rfl rfl HBZ.out hu rfl info_rtfrom) rfl ⟨by rw [HR3.out]; rfl, HLZ.out⟩
        · have HR3 : Hid (rload D = ((bs, bl, bh), 0)) := Lib.hid (by rw [HR2.out, if_neg h0])
          have e0 : (bs == 0) = false := by rw [beq_eq_false_iff_ne]; exact h0
          have HBZ : Hid (Blk (wr.setCells (w.heap.size + 1) 0 [.int .i64 bs, .int .i64 bl, .int .i64 bh]) (w.heap.size + 1) [.int .i64 bs, .int .i64 bl, .int .i64 bh]) := Lib.hid (HB.out.sets [.int .i64 bs, .int .i64 bl, .int .i64 bh] 0 (by simp))
          have HLZ := Lib.hid (below_sets (Nat.le_succ w.heap.size) [.int .i64 bs, .int .i64 bl, .int .i64 bh] 0 HL.out)
          clear HR2 h0
          go_wp2_with (first
            | (refine wpList_load_mid rfl 23 (.tmp 4) rfl (w.heap.size + 2) 0 rfl [.int .i64 bs, .int .i64 bl, .int .i64 bh] _ RB hu rfl info_rtfrom ?_
               simp only [Act.put, List.setIfInBounds_toArray, List.set_cons_zero, List.set_cons_succ])
            | (refine wpList_store_mid rfl 23 (.tmp 2) (.tmp 46) rfl (w.heap.size + 1) 0 #[.int .i64 bs, .int .i64 bl, .int .i64 bh] rfl rfl TH info_rtfrom (by simp [Value.oneCell']) ?_
               simp only [Act.put, List.setIfInBounds_toArray, List.set_cons_zero, List.set_cons_succ])
            | fail)
          exact bodyPost_ret (v := .tuple #[.agg #[.int .i64 bs, .int .i64 bl, .int .i64 bh], .int .i64 0]) (results_rows_tmp rfl _ _ (w.heap.size + 1) [.int .i64 bs, .int .i64 bl, .int .i64 bh] _ (.int .i64 0) rfl rfl HBZ.out hu rfl info_rtfrom) rfl ⟨by rw [HR3.out]; rfl, HLZ.out⟩
end Go.Proofs.Ytncbhpopobjaiaa

/- Disks: the document's New. -/
namespace Go.Proofs.Ytncbhpopobjaiaa
set_option linter.unusedVariables false
set_option linter.unusedSimpArgs false
open Go Go.RowKit

/-- A slot that holds a slice of one string. -/
def relStr1 (x : ByteArray) : Rel where
  rel v w := ∃ g, v = .slice (some ⟨g, 0, none⟩) 1 1 ∧ Blk w g [.string x]
  mono := fun v w w' h ⟨g, e, hb⟩ => ⟨g, e, hb.later h⟩
  real := fun w ⟨_, e, _⟩ => by cases e
theorem run_str1 (x : ByteArray) (w : World) : (Instr.buildSlice 40 1 #[(0, .string x)]).run Try.prog w = .ok (.slice (some ⟨w.heap.size, 0, none⟩) 1 1) (w.alloc (.cells #[.string x] 9)) := by kernel_rfl
theorem str1_gives {a : Act} {op : Oper} (y : Operand) (x : ByteArray) (ho : op.op = .buildSlice 40 1 #[(0, y)]) (hx : a.eval y = .string x) (w : World) : gives Try.prog op a (relStr1 x).rel w := by
  unfold gives execOp
  simp only [ho, List.map_toArray, List.map_cons, List.map_nil, hx, Sem.run_bind, run_str1 x, Result.andThen_ok, Sem.run_pure]
  exact ⟨(Below.refl _ _).alloc (Nat.le_refl _) _, _, rfl, Blk.new w [.string x] _⟩
def zrep (k : Nat) : List Value := stc (List.replicate k (z64, false))
theorem zrep_snoc (k : Nat) : zrep k ++ [.string (str z64.1)] = zrep (k + 1) := by
  unfold zrep stc
  rw [List.replicate_succ', List.map_append]
  rfl
theorem zrep_one (k : Nat) : ∀ u ∈ zrep k, u.oneCell' = true := stc_one _
set_option maxRecDepth 100000 in
set_option maxHeartbeats 3200000 in
theorem rnew_any (n : Nat) (w : World) (hn : n ≤ 2048) : Calls Try.prog 16 #[.int .i64 (n : Int)] w fun e w' => ∃ A c, e = .returned (.agg #[.slice A n c, .slice none 0 0, .int .i64 (-1), .bool false]) ∧ w'.ownsRow w.heap.size 9 1 (.slice A n c) n (stc (dnew n).s) ∧ Below w.heap.size w w' := by
  obtain ⟨i1, ji, jz0, jz1, jz2⟩ := info_parts info_str
  have hu := Try.underlying43
  obtain ⟨zs, hzs⟩ : ∃ zs, zs = stc (dnew n).s := ⟨_, rfl⟩
  rw [← hzs]
  have HZS : Hid (zs = zrep n) := Lib.hid hzs
  obtain ⟨z0, hz0⟩ : ∃ z0, z0 = str z64.1 := ⟨_, rfl⟩
  have HZ0 := Lib.hid hz0
  have HZN := Lib.hid (zrep_snoc)
  rw [← hz0] at HZN
  have HZR : Hid (∀ wx : World, Calls Try.prog 35 #[] wx fun e w' => e = .returned (.string z0) ∧ Below wx.heap.size wx w') := Lib.hid (fun wx => by rw [hz0]; exact rzero_any wx)
  clear hz0 hzs
  go_enter Try.func16, Try.ntmps16
  go_wp2_with fail
  have B0 := Lib.hid (((Blk.new w [.slice none 0 0, .slice none 0 0, .int .i64 0, .bool false] 43)).alloc (.cells #[.slice none 0 0, .slice none 0 0, .int .i64 (-1), .bool false] 43))
  have B1 := Blk.new (w.alloc (.cells #[.slice none 0 0, .slice none 0 0, .int .i64 0, .bool false] 43)) [.slice none 0 0, .slice none 0 0, .int .i64 (-1), .bool false] 43
  have L0 := Lib.hid ((((Below.refl w.heap.size w).alloc (Nat.le_refl _) (.cells #[.slice none 0 0, .slice none 0 0, .int .i64 0, .bool false] 43))).alloc (by simp) (.cells #[.slice none 0 0, .slice none 0 0, .int .i64 (-1), .bool false] 43))
  have RW0 := Lib.hid (World.ownsRow_nil ((w.alloc (.cells #[.slice none 0 0, .slice none 0 0, .int .i64 0, .bool false] 43)).alloc (.cells #[.slice none 0 0, .slice none 0 0, .int .i64 (-1), .bool false] 43)) (w.heap.size + 2) 9 1)
  have S0 : Hid (w.heap.size + 2 ≤ ((w.alloc (.cells #[.slice none 0 0, .slice none 0 0, .int .i64 0, .bool false] 43)).alloc (.cells #[.slice none 0 0, .slice none 0 0, .int .i64 (-1), .bool false] 43)).heap.size) := Lib.hid (by simp)
  rw [World.size_alloc] at B1
  have B1 := Lib.hid B1
  go_loopw [4] (fun i wr => ∃ k : Nat, k ≤ n ∧ i = .int .i64 (k : Int) ∧ ∃ A c, Hid (Blk wr (w.heap.size + 1) [.slice A k c, .slice none 0 0, .int .i64 (-1), .bool false]) ∧ Hid (wr.ownsRow (w.heap.size + 2) 9 1 (.slice A k c) k (zrep k)) ∧ Hid (Blk wr w.heap.size [.slice none 0 0, .slice none 0 0, .int .i64 0, .bool false]) ∧ Hid (Below w.heap.size w wr) ∧ Hid (w.heap.size + 2 ≤ wr.heap.size)) (fun i _ => (n - intOf i).toNat)
  case atStart => exact ⟨0, by omega, rfl, none, 0, B1, RW0, B0, L0, S0⟩
  case round =>
    clear B1 B0 L0 RW0 S0
    obtain ⟨k, hk, rfl, A, c, HB1, HR, HB0, HL, HS⟩ := hrel
    have k0 : wr.cell? ⟨w.heap.size + 1, 0, none⟩ = some (.slice A k c) := HB1.out.cell (j := 0) rfl
    have k1 : wr.cell? ⟨w.heap.size + 1, 1, none⟩ = some (.slice none 0 0) := HB1.out.cell (j := 1) rfl
    have k2 : wr.cell? ⟨w.heap.size + 1, 2, none⟩ = some (.int .i64 (-1)) := HB1.out.cell (j := 2) rfl
    have k3 : wr.cell? ⟨w.heap.size + 1, 3, none⟩ = some (.bool false) := HB1.out.cell (j := 3) rfl
    by_cases hlt : k < n
    · clear k0 k1 k2 k3
      go_wp2_with fail
      refine wp_region_tail [(14, relStr1 z0)] 18 4 (by kernel_rfl) (by kernel_rfl) (by kernel_rfl) (by rfl) ?_
      simp only [List.take_succ_cons, List.take_zero, List.drop_succ_cons, List.drop_zero]
      iterate 1 (refine wpG_quiet (by rfl) (by rfl) (by rfl) (fun K hK => ?_); go_big_quiet_op; refine hK _ ?_; clear hK K)
      have hk0 : ∀ wx, Le wr wx → wx.cell? ⟨w.heap.size + 1, 0, none⟩ = some (.slice A k c) := fun wx hl => (HB1.out.later hl).cell (j := 0) rfl
      refine wpG_run (by rfl) (by rfl) (.slice A k c) (fun w1 hl => by have := hk0 w1 hl.1; simp [go_sem, this]) ?_
      simp only [Act.put, List.setIfInBounds_toArray, List.set_cons_zero, List.set_cons_succ]
      refine wpG_call (by rfl) (by rfl) 35 #[] (.string z0) (by intro _; simp [go_sem]) (by kernel_rfl) (fun w1 _ => HZR.out w1) ?_
      simp only [Act.put, List.setIfInBounds_toArray, List.set_cons_zero, List.set_cons_succ]
      refine wpG_open (relStr1 z0) (by rfl) (by rfl) (fun w1 hl => str1_gives (.tmp 13) z0 rfl rfl w1) ?_
      rintro _ ⟨_, _, _, ⟨g, rfl, _⟩⟩
      simp only [Act.put, List.setIfInBounds_toArray, List.set_cons_zero, List.set_cons_succ]
      refine wpG_nil fun w1 hl hS => ?_
      obtain ⟨_, ⟨g', eg, hB1⟩⟩ := hS
      cases eg
      have hsz := Nat.le_trans HS.out hl.size
      have HB1' := HB1.out.later hl
      have HB0' := Lib.hid (HB0.out.later hl)
      have HR' := Lib.hid (row_later HR.out hl)
      have HL' := Lib.hid (HL.out.trans (hl.mono HL.out.size))
      have hsee : Sees w1 w1.heap.size (some ⟨g, 0, none⟩) [.string z0] := fun _ => ⟨g, 0, rfl, hB1.lt, fun j hj => by rw [Nat.zero_add]; exact hB1.cell (List.getElem?_eq_getElem hj)⟩
      clear hk0 HB1 HB0 HR HL
      refine wpList_appk _ rfl (.tmp 12) (.tmp 14) 40 rfl (w.heap.size + 2) 9 i1 _ 1 16 Try.underlying40 ji jz0 jz1 jz2 (by rfl) (by decide) (.slice A k c) k (zrep k) (by rfl) HR'.out w1.heap.size (some ⟨g, 0, none⟩) 1 [.string z0] 1 (by rfl) rfl hsee (by simp [Value.oneCell']) (by unfold maxLen; omega) (by omega) hsz ?_
      intro A3 c3 w3 hr3 hb3 hg3 hat3
      rw [HZN.out] at hr3
      have hB3 := (HB1'.below hb3 (by omega))
      have HB03 := Lib.hid (HB0'.out.below hb3 (by omega))
      have HL3 := Lib.hid (HL'.out.trans (hb3.mono (by omega)))
      have hsz3 := Lib.hid (Nat.le_trans hsz hb3.size)
      have hr3 := Lib.hid hr3
      have c3_ := hB3.cell (j := 0) rfl
      have f3_ := hB3.frozen 0
      have HB3 := Lib.hid hB3
      clear hg3 hat3 hb3 hB3 HB1' HB0' HR' HL' hsee hB1 hsz hl
      go_wp2_with fail
      go_roundw
      case rel =>
        have hq : (Value.slice A3 (k + 1) c3).ownBlock ≠ some (w.heap.size + 1) := fun e => by have := (row_lt hr3.out _ e).1; omega
        refine ⟨k + 1, by omega, by go_num, A3, c3, Lib.hid ?_, Lib.hid (row_apartD hr3.out hq [.slice A3 (k + 1) c3] 0), Lib.hid (HB03.out.setOther 0 _ (by omega)), Lib.hid (HL3.out.setCell (by simp) _), Lib.hid (by simpa using hsz3.out)⟩
        have := HB3.out.set 0 (.slice A3 (k + 1) c3)
        simpa using this
      case measure => simp [intOf]; omega
    · obtain rfl : k = n := by omega
      have RB := HB1.out.range 0 [.slice A k c, .slice none 0 0, .int .i64 (-1), .bool false] rfl
      have TH := HB0.out.there 0 4 (by simp)
      have HB2 : Hid (Blk (wr.setCells w.heap.size 0 [.slice A k c, .slice none 0 0, .int .i64 (-1), .bool false]) w.heap.size [.slice A k c, .slice none 0 0, .int .i64 (-1), .bool false]) := Lib.hid (HB0.out.sets [.slice A k c, .slice none 0 0, .int .i64 (-1), .bool false] 0 (by simp))
      have HL2 := Lib.hid (below_sets (Nat.le_refl _) [.slice A k c, .slice none 0 0, .int .i64 (-1), .bool false] 0 HL.out)
      have HR2 := Lib.hid (row_apartD HR.out (b := w.heap.size) (fun e => by have := (row_lt HR.out _ e).1; omega) [.slice A k c, .slice none 0 0, .int .i64 (-1), .bool false] 0)
      clear k0 k1 k2 k3 HB0 HB1 HL HR
      go_wp2_with (first
        | (refine wpList_load_mid rfl 43 (.tmp 3) rfl (w.heap.size + 1) 0 rfl [.slice A k c, .slice none 0 0, .int .i64 (-1), .bool false] _ RB hu rfl info_rd ?_)
        | (refine wpList_store_mid rfl 43 (.tmp 2) (.tmp 17) rfl w.heap.size 0 #[.slice A k c, .slice none 0 0, .int .i64 (-1), .bool false] rfl rfl TH info_rd (by simp [Value.oneCell']) ?_)
        | fail)
      exact bodyPost_ret (v := .agg #[.slice A k c, .slice none 0 0, .int .i64 (-1), .bool false]) (results_blk rfl _ _ w.heap.size [.slice A k c, .slice none 0 0, .int .i64 (-1), .bool false] _ rfl HB2.out hu rfl info_rd) rfl ⟨A, c, rfl, by rw [HZS.out]; exact row_lower HR2.out (by omega), HL2.out⟩
end Go.Proofs.Ytncbhpopobjaiaa

/- Disks: Clone. -/
namespace Go.Proofs.Ytncbhpopobjaiaa
set_option linter.unusedVariables false
set_option linter.unusedSimpArgs false
open Go Go.RowKit

theorem mk_wris (n : Nat) (hn : n ≤ 65536) (w : World) : (Instr.makeSlice 78 (.int .i64 (n : Int)) (.int .i64 (n : Int))).run Try.prog w = .ok (.slice (some ⟨w.heap.size, 0, none⟩) n n) (w.alloc (.cells (wcs (List.replicate n (0, z64))).toArray 86)) := by
  obtain ⟨i0, hi, hz, hs, hb⟩ := info_wrid
  have hr := run_make (P := Try.prog) w 78 86 i0 _ Try.underlying78 hi hz .i64 .i64 (n : Int) (n : Int) (by omega) (Int.le_refl _) (by rw [hb]; omega) (by omega)
  simp only [Int.toNat_natCast, hs] at hr
  rw [show (Value.agg (wcell (0, z64)).toArray).cells = (wcell (0, z64)).toArray from rfl, made_rws wcell (0, z64) 65 (wcell_len _) (by decide) n] at hr
  exact hr
theorem run_bxd (A A' : Option Addr) (n c n' c' : Nat) (f : Int) (d : Bool) (w : World) : (Instr.box 80 (.agg #[.slice A n c, .slice A' n' c', .int .i64 f, .bool d])).run Try.prog w = .ok (.pointer (some ⟨w.heap.size, 0, none⟩)) (w.alloc (.cells #[.slice A n c, .slice A' n' c', .int .i64 f, .bool d] 80)) := by kernel_rfl
theorem scs_one (l : List Sc) : ∀ u ∈ scs l, u.oneCell' = true := fun u hu => by
  unfold scs at hu
  obtain ⟨x, _, hx⟩ := List.mem_flatMap.1 hu
  exact scell_one x u hx

end Go.Proofs.Ytncbhpopobjaiaa

/- Disks: both disks, side by side; what an act does. -/
namespace Go.Proofs.Ytncbhpopobjaiaa
set_option linter.unusedVariables false
set_option linter.unusedSimpArgs false
open Go Go.RowKit

theorem row_block {w w' : World} {base n size : Nat} {e : TypeId} {v : Value} {xs : List Value} (h : w.ownsRow base e size v n xs) (hb : ∀ k, v.ownBlock = some k → w'.heap[k]? = w.heap[k]?) : w'.ownsRow base e size v n xs := by
  obtain ⟨h1, h2 | ⟨g, cap, cur, rfl, e2, e3, e4, e5, e6, e7⟩⟩ := h
  · exact ⟨h1, .inl h2⟩
  · exact ⟨h1, .inr ⟨g, cap, cur, rfl, e2, (hb g rfl).trans e3, e4, e5, e6, e7⟩⟩
theorem RfAt.rows {w : World} {L m : Nat} {q p : Option Nat} {D : Dk} (h : RfAt w L m q p D) : (∀ k, q = some k → L ≤ k ∧ k < w.heap.size) ∧ (∀ k, p = some k → L ≤ k ∧ k < w.heap.size) := by
  obtain ⟨A, c, A', c', B, h1, h2, e1, e2⟩ := h.at_
  exact ⟨fun k hk => row_lt h1 k (by rw [← e1]; exact hk), fun k hk => row_lt h2 k (by rw [← e2]; exact hk)⟩
theorem RfAt.turn {w w' : World} {L m g b : Nat} {r q p : Option Nat} {D : Dk} (h : RfAt w L m q p D) (T : Turn3 w w' g b r) (mg : m ≠ g) (mb : m ≠ b) (mr : r ≠ some m)
    (qg : q ≠ some g) (qb : q ≠ some b) (qr : ∀ k, r = some k → q ≠ some k) (pg : p ≠ some g) (pb : p ≠ some b) (pr : ∀ k, r = some k → p ≠ some k) : RfAt w' L m q p D := by
  have hr := h.rows
  obtain ⟨⟨A, c, A', c', B, h1, h2, e1, e2⟩, h3, h4, h5⟩ := h
  refine ⟨⟨A, c, A', c', T.blk B mg mb mr, row_block h1 (fun k hk => ?_), row_block h2 (fun k hk => ?_), e1, e2⟩, h3, h4, h5⟩
  · rw [← e1] at hk
    exact T.block k (hr.1 k hk).2 (fun e => qg (by rw [hk, e])) (fun e => qb (by rw [hk, e])) (fun e => qr k e.symm hk)
  · rw [← e2] at hk
    exact T.block k (hr.2 k hk).2 (fun e => pg (by rw [hk, e])) (fun e => pb (by rw [hk, e])) (fun e => pr k e.symm hk)
theorem DkAt.turn {w w' : World} {L g b m : Nat} {r : Option Nat} {D : Dk} (h : DkAt w L g b r D) (T : Turn3 w w' m m none) (mg : m ≠ g) (mb : m ≠ b) (mr : r ≠ some m) : DkAt w' L g b r D := by
  have hr := h.row
  obtain ⟨⟨A, c, B, h1, e1⟩, h2, h3, h4, h5, h6, h7⟩ := h
  refine ⟨⟨A, c, T.blk B (Ne.symm mg) (Ne.symm mg) (by simp), row_block h1 (fun k hk => ?_), e1⟩, T.blk h2 (Ne.symm mb) (Ne.symm mb) (by simp), h3, h4, h5, h6, h7⟩
  rw [← e1] at hk
  exact T.block k (hr k hk).2 (fun e => mr (by rw [hk, e])) (fun e => mr (by rw [hk, e])) (by simp)
theorem DkAt.lower {w : World} {L L' g b : Nat} {r : Option Nat} {D : Dk} (h : DkAt w L g b r D) (hl : L' ≤ L) : DkAt w L' g b r D := by
  obtain ⟨⟨A, c, B, h1, e1⟩, h2, h3, h4, h5, h6, h7⟩ := h
  exact ⟨⟨A, c, B, row_lower h1 hl, e1⟩, h2, h3, h4, h5, Nat.le_trans hl h6, Nat.le_trans hl h7⟩
/-- The program's disk and the document's, side by side. -/
structure Both (w : World) (L g b : Nat) (r : Option Nat) (m : Nat) (q p : Option Nat) (D : Dk) : Prop where
  dk : DkAt w L g b r D
  rf : RfAt w L m q p D
  mg : m ≠ g
  mb : m ≠ b
  mr : r ≠ some m
  qg : q ≠ some g
  qb : q ≠ some b
  qr : ∀ k, r = some k → q ≠ some k
  pg : p ≠ some g
  pb : p ≠ some b
  pr : ∀ k, r = some k → p ≠ some k
section
variable {w w1 w2 : World} {L g b m : Nat} {r r1 q p q' p' : Option Nat} {D D' : Dk}
theorem Both.later (h : Both w L g b r m q p D) (hb : Below w.heap.size w w1) : Both w1 L g b r m q p D := { h with dk := h.dk.later hb, rf := h.rf.later hb }
theorem Both.mid (h : Both w L g b r m q p D) (T : Turn3 w w1 g b r) : RfAt w1 L m q p D := h.rf.turn T h.mg h.mb h.mr h.qg h.qb h.qr h.pg h.pb h.pr
theorem Both.step (h : Both w L g b r m q p D) (hd : DkAt w1 L g b r1 D') (T : Turn3 w w1 g b r) (R : RowN w r r1) (hr : RfAt w2 L m q' p' D') (T2 : Turn3 w1 w2 m m none) (Rq : RowN w1 q q') (Rp : RowN w1 p p') : Both w2 L g b r1 m q' p' D' := by
  have hm := h.rf.lt
  have hg := h.dk.lt
  have hz := T.size
  have hq := h.rf.rows
  have hr1 := hd.row
  have mr1 : r1 ≠ some m := fun e => by
    rcases R m e with h1 | h1
    · exact h.mr h1
    · omega
  have side : ∀ (x x' : Option Nat) (c : Nat), x ≠ some c → c < w.heap.size → RowN w1 x x' → x' ≠ some c := fun x x' c h1 h2 h3 e => by
    rcases h3 c e with h4 | h4
    · exact h1 h4
    · omega
  have rowed : ∀ (x x' : Option Nat), (∀ k, x = some k → L ≤ k ∧ k < w.heap.size) → (∀ k, r = some k → x ≠ some k) → RowN w1 x x' → ∀ k, r1 = some k → x' ≠ some k := fun x x' h1 h2 h3 k hk e => by
    have k1 := (hr1 k hk).2
    rcases h3 k e with h4 | h4
    · rcases R k hk with h5 | h5
      · exact h2 k h5 h4
      · have := (h1 k h4).2
        omega
    · omega
  exact ⟨hd.turn T2 h.mg h.mb mr1, hr, h.mg, h.mb, mr1, side q q' g h.qg hg.1 Rq, side q q' b h.qb hg.2 Rq, rowed q q' hq.1 h.qr Rq, side p p' g h.pg hg.1 Rp, side p p' b h.pb hg.2 Rp, rowed p p' hq.2 h.pr Rp⟩
theorem Both.below (h : Both w L g b r m q p D) (T : Turn3 w w1 g b r) (T2 : Turn3 w1 w2 m m none) (hL : L ≤ w.heap.size) : Below L w w2 :=
  (T.below h.dk.Lg h.dk.Lb (fun k hk => (h.dk.row k hk).1) hL).trans (T2.below h.rf.Lm h.rf.Lm (fun k hk => by cases hk) (Nat.le_trans hL T.size))
end
/-- What an act does to a disk. -/
def dact (D : Dk) (k a n : Int) (c : UInt8) (keep : List Int) : Dk :=
  if k = 0 then (dwrite D a (fil (if n = 7 then 63 else 64) c)).1 else if k = 1 then (dsync D).1 else if k = 2 then { D with fuse := n } else if k = 3 then dcrash D keep else D
theorem dstep_fuse (D : Dk) (h : -9223372036854775808 ≤ D.fuse ∧ D.fuse ≤ 9223372036854775807) : -9223372036854775808 ≤ (dstep D).1.fuse ∧ (dstep D).1.fuse ≤ 9223372036854775807 := by
  unfold dstep
  split
  · exact h
  · split
    · show -9223372036854775808 ≤ D.fuse - 1 ∧ D.fuse - 1 ≤ 9223372036854775807
      omega
    · exact h
theorem dact_ok (D : Dk) (k a n : Int) (c : UInt8) (keep : List Int) (hin : DIn D) (hf : -9223372036854775808 ≤ D.fuse ∧ D.fuse ≤ 9223372036854775807) (hn : -9223372036854775808 ≤ n ∧ n ≤ 9223372036854775807) :
    DIn (dact D k a n c keep) ∧ (-9223372036854775808 ≤ (dact D k a n c keep).fuse ∧ (dact D k a n c keep).fuse ≤ 9223372036854775807) ∧ (dact D k a n c keep).w.length ≤ D.w.length + 1 ∧ (dact D k a n c keep).s.length = D.s.length := by
  unfold dact
  split
  · refine ⟨hin.write _ _, ?_⟩
    generalize fil (if n = 7 then 63 else 64) c = l
    unfold dwrite
    split
    · exact ⟨hf, Nat.le_succ _, rfl⟩
    · split
      · rename_i h1 h2
        refine ⟨dstep_fuse _ hf, ?_, ?_⟩
        · rw [(dstep_s _).2]; simp
        · rw [(dstep_s _).1]
      · exact ⟨hf, Nat.le_succ _, rfl⟩
  · split
    · refine ⟨hin.sync, ?_⟩
      unfold dsync
      split
      · exact ⟨hf, Nat.le_succ _, rfl⟩
      · split
        · exact ⟨dstep_fuse _ hf, by simp, dall_len _ _⟩
        · refine ⟨dstep_fuse _ hf, ?_, ?_⟩
          · rw [(dstep_s _).2]; omega
          · rw [(dstep_s _).1]
    · split
      · exact ⟨hin, hn, by show D.w.length ≤ _; omega, rfl⟩
      · split
        · exact ⟨DIn.crash _ _, by simp [dcrash], by simp [dcrash], dkeep_len _ _ _ _⟩
        · exact ⟨hin, hf, by omega, rfl⟩
end Go.Proofs.Ytncbhpopobjaiaa

/- Disks: an act, by both. -/
namespace Go.Proofs.Ytncbhpopobjaiaa
set_option linter.unusedVariables false
set_option linter.unusedSimpArgs false
open Go Go.RowKit

end Go.Proofs.Ytncbhpopobjaiaa

/- DiskKeeps: what the law's loops come to: mathematics. -/
namespace Go.Proofs.Ytncbhpopobjaiaa
set_option linter.unusedVariables false
set_option linter.unusedSimpArgs false
open Go Go.RowKit

/-- An act: its kind, its place, its number, its byte, what is kept (as it lies there). -/
abbrev Ax := Int × Int × Int × UInt8 × Value
def axc (x : Ax) : List Value := [.int .i64 x.1, .int .i64 x.2.1, .int .i64 x.2.2.1, .int .u8 (x.2.2.2.1.toNat : Int), x.2.2.2.2]
theorem ax_len (l : List Ax) : ∀ x ∈ l, (axc x).length = 5 := fun _ _ => rfl
/-- A disk whose power does not go. -/
def kd (s : List Sc) (ws : List Wr) : Dk := ⟨s, ws, -1, false⟩
def wr1 (x : Ax) : Wr := (x.2.1, b64 (fil 64 x.2.2.2.1))
def inr (x : Ax) : Prop := 0 ≤ x.2.1 ∧ x.2.1 < 8
instance (x : Ax) : Decidable (inr x) := by unfold inr; infer_instance
def wl (l : List Ax) : List Wr := l.filterMap fun x => if inr x then some (wr1 x) else none
def wasg (was : List (List UInt8)) (l : List Ax) : List (List UInt8) := l.foldl (fun s x => if inr x then s.set x.2.1.toNat (fil 64 x.2.2.2.1) else s) was
def was0 : List (List UInt8) := List.replicate 8 (fil 64 0)
def scf (x : List UInt8) : Sc := (b64 x, false)
theorem kd_new : dnew 8 = kd (was0.map scf) [] := by
  unfold dnew kd was0 scf
  rw [List.map_replicate]
  have : b64 (fil 64 0) = z64 := by
    unfold b64
    rw [dif_pos (fil_len 64 0)]
    rfl
  rw [this]
theorem kd_write {s : List Sc} (hs : s.length = 8) (ws : List Wr) (x : Ax) : dwrite (kd s ws) x.2.1 (fil 64 x.2.2.2.1) = if inr x then (kd s (ws ++ [wr1 x]), 0) else (kd s ws, 1) := by
  by_cases h : inr x
  · rw [if_pos h]
    unfold inr at h
    unfold dwrite dhas dstep kd wr1
    simp only [hs, fil_len]
    rw [if_neg (by simp), if_pos ⟨by rw [decide_eq_true_eq]; exact h, trivial⟩]
    simp
  · rw [if_neg h]
    unfold inr at h
    unfold dwrite dhas kd
    simp only [hs, fil_len]
    rw [if_neg (by simp), if_neg (fun e => h (by have := e.1; rw [decide_eq_true_eq] at this; exact this))]
theorem kd_sync (s : List Sc) (ws : List Wr) : dsync (kd s ws) = (kd (dall s ws) [], 0) := by
  unfold dsync dstep kd
  simp
theorem kd_crash (s : List Sc) (ws : List Wr) (keep : List Int) : dcrash (kd s ws) keep = kd (dkeep keep 0 s ws) [] := rfl
theorem kd_read {s : List Sc} (hs : s.length = 8) {k : Nat} (hk : k < 8) : dread (kd s []) (k : Int) = if (s.getD k (z64, false)).2 then ([], 16) else ((s.getD k (z64, false)).1.1, 0) := by
  unfold dread dhas dlook kd
  simp only [hs, List.foldl_nil, Int.toNat_natCast]
  rw [if_neg (by simp), if_pos (by rw [decide_eq_true_eq]; omega)]
  rfl
theorem kd_in {s : List Sc} (hs : s.length = 8) (l : List Ax) : DIn (kd s (wl l)) := by
  intro x hx
  unfold kd wl at hx
  rw [List.mem_filterMap] at hx
  obtain ⟨y, _, hy⟩ := hx
  split at hy
  · rename_i h
    injection hy with hy
    subst hy
    unfold dhas kd
    simp only [hs, decide_eq_true_eq]
    exact h
  · cases hy
theorem wl_take (l : List Ax) (k : Nat) (hk : k < l.length) : wl (l.take (k + 1)) = if inr l[k] then wl (l.take k) ++ [wr1 l[k]] else wl (l.take k) := by
  rw [List.take_succ_eq_append_getElem hk]
  unfold wl
  rw [List.filterMap_append]
  by_cases h : inr l[k]
  · simp [h]
  · simp [h]
theorem wl_len (l : List Ax) : (wl l).length ≤ l.length := List.length_filterMap_le _ _
theorem wasg_take (was : List (List UInt8)) (l : List Ax) (k : Nat) (hk : k < l.length) : wasg was (l.take (k + 1)) = if inr l[k] then (wasg was (l.take k)).set l[k].2.1.toNat (fil 64 l[k].2.2.2.1) else wasg was (l.take k) := by
  rw [List.take_succ_eq_append_getElem hk]
  unfold wasg
  rw [List.foldl_append]
  rfl
theorem wasg_len : ∀ (l : List Ax) (was : List (List UInt8)), (wasg was l).length = was.length
  | [], _ => rfl
  | x :: l, was => by
    show (wasg (if inr x then was.set x.2.1.toNat (fil 64 x.2.2.2.1) else was) l).length = _
    rw [wasg_len l]
    split <;> simp
theorem wasg_64 : ∀ (l : List Ax) (was : List (List UInt8)), (∀ y ∈ was, y.length = 64) → ∀ y ∈ wasg was l, y.length = 64
  | [], _, h => h
  | x :: l, was, h => by
    show ∀ y ∈ wasg (if inr x then was.set x.2.1.toNat (fil 64 x.2.2.2.1) else was) l, _
    refine wasg_64 l _ (fun y hy => ?_)
    split at hy
    · rcases List.mem_or_eq_of_mem_set hy with h1 | h1
      · exact h y h1
      · rw [h1]; exact fil_len _ _
    · exact h y hy
theorem dall_was : ∀ (l : List Ax) (was : List (List UInt8)), dall (was.map scf) (wl l) = (wasg was l).map scf
  | [], _ => rfl
  | x :: l, was => by
    show dall (was.map scf) ((x :: l).filterMap _) = (wasg (if inr x then was.set x.2.1.toNat (fil 64 x.2.2.2.1) else was) l).map scf
    rw [← dall_was l]
    by_cases h : inr x
    · rw [if_pos h, List.filterMap_cons, if_pos h]
      show dall (dsettle (was.map scf) (wr1 x) 1) (wl l) = _
      unfold dsettle wr1
      rw [if_pos rfl, List.map_set]
      rfl
    · rw [if_neg h, List.filterMap_cons, if_neg h]
      rfl
/-- What a sector is behind a crash. -/
theorem keep_or (keep : List Int) (k : Nat) : ∀ (l : List Wr) (j : Nat) (s : List Sc), k < s.length → (∀ x ∈ l, 0 ≤ x.1) →
    (dkeep keep j s l).getD k (z64, false) = s.getD k (z64, false) ∨ ∃ x ∈ l, x.1 = (k : Int) ∧ (((dkeep keep j s l).getD k (z64, false)).2 = true ∨ (dkeep keep j s l).getD k (z64, false) = (x.2, false))
  | [], _, _, _, _ => .inl rfl
  | x :: l, j, s, hk, hp => by
    have ih := keep_or keep k l (j + 1) (dsettle s x (outc keep j)) (by rw [dsettle_len]; exact hk) (fun y hy => hp y (List.mem_cons_of_mem _ hy))
    have hx0 := hp x List.mem_cons_self
    have hd : (dsettle s x (outc keep j)).getD k (z64, false) = s.getD k (z64, false) ∨ (x.1 = (k : Int) ∧ (((dsettle s x (outc keep j)).getD k (z64, false)).2 = true ∨ (dsettle s x (outc keep j)).getD k (z64, false) = (x.2, false))) := by
      unfold dsettle
      by_cases he : x.1.toNat = k
      · have hxk : x.1 = (k : Int) := by omega
        split
        · refine .inr ⟨hxk, .inr ?_⟩
          rw [he, List.getD_eq_getElem?_getD, List.getElem?_set_self hk]
          rfl
        · split
          · refine .inr ⟨hxk, .inl ?_⟩
            rw [he, List.getD_eq_getElem?_getD, List.getElem?_set_self hk]
            rfl
          · exact .inl rfl
      · split
        · refine .inl ?_
          rw [List.getD_eq_getElem?_getD, List.getElem?_set_ne he, ← List.getD_eq_getElem?_getD]
        · split
          · refine .inl ?_
            rw [List.getD_eq_getElem?_getD, List.getElem?_set_ne he, ← List.getD_eq_getElem?_getD]
          · exact .inl rfl
    show (dkeep keep (j + 1) (dsettle s x (outc keep j)) l).getD k _ = _ ∨ _
    rcases ih with h | ⟨y, hy, h1, h2⟩
    · rcases hd with h3 | ⟨h3, h4⟩
      · exact .inl (h.trans h3)
      · refine .inr ⟨x, List.mem_cons_self, h3, ?_⟩
        rw [show dkeep keep j s (x :: l) = dkeep keep (j + 1) (dsettle s x (outc keep j)) l from rfl, h]
        exact h4
    · exact .inr ⟨y, List.mem_cons_of_mem _ hy, h1, h2⟩
/-- Which acts touch a sector; which say what was read. -/
def tch (l : List Ax) (k : Nat) : Bool := l.any fun x => decide (x.2.1 = (k : Int))
def okf (ok : Bool) (s : List UInt8) (e : Int) (l : List Ax) (k : Nat) : Bool := ok || l.any fun x => decide (x.2.1 = (k : Int) ∧ (s = fil 64 x.2.2.2.1 ∨ e = 16))
theorem tch_take (l : List Ax) (k i : Nat) (hi : i < l.length) : tch (l.take (i + 1)) k = (tch (l.take i) k || decide (l[i].2.1 = (k : Int))) := by
  unfold tch
  rw [List.take_succ_eq_append_getElem hi, List.any_append]
  simp only [List.any_cons, List.any_nil, Bool.or_false]
theorem okf_take (ok : Bool) (s : List UInt8) (e : Int) (l : List Ax) (k i : Nat) (hi : i < l.length) : okf ok s e (l.take (i + 1)) k = (okf ok s e (l.take i) k || decide (l[i].2.1 = (k : Int) ∧ (s = fil 64 l[i].2.2.2.1 ∨ e = 16))) := by
  unfold okf
  rw [List.take_succ_eq_append_getElem hi, List.any_append]
  simp only [List.any_cons, List.any_nil, Bool.or_false, Bool.or_assoc]
/-- The law's last check: it holds. -/
theorem keeps_ok (sure rest : List Ax) (keep : List Int) (k : Nat) (hk : k < 8) (s : List UInt8) (e : Int) (hr : dread (kd (dkeep keep 0 ((wasg was0 sure).map scf) (wl rest)) []) (k : Int) = (s, e)) :
    okf (decide (s = (wasg was0 sure).getD k [])) s e rest k = true ∧ (tch rest k = false → e = 0) := by
  have hwl : (wasg was0 sure).length = 8 := by rw [wasg_len]; rfl
  have h64 := wasg_64 sure was0 (fun y hy => by unfold was0 at hy; rw [List.eq_of_mem_replicate hy]; exact fil_len _ _)
  have hsl : ((wasg was0 sure).map scf).length = 8 := by rw [List.length_map, hwl]
  have hdl : (dkeep keep 0 ((wasg was0 sure).map scf) (wl rest)).length = 8 := by rw [dkeep_len, hsl]
  rw [kd_read hdl hk] at hr
  have hpos : ∀ x ∈ wl rest, 0 ≤ x.1 := fun x hx => by
    have := kd_in (s := (wasg was0 sure).map scf) hsl rest x hx
    unfold dhas at this
    rw [decide_eq_true_eq] at this
    exact this.1
  have hget : ((wasg was0 sure).map scf).getD k (z64, false) = scf ((wasg was0 sure).getD k []) := by
    rw [List.getD_eq_getElem?_getD, List.getElem?_map, List.getD_eq_getElem?_getD, List.getElem?_eq_getElem (by rw [hwl]; exact hk)]
    rfl
  have hb : ((wasg was0 sure).getD k []).length = 64 := by
    rw [List.getD_eq_getElem?_getD, List.getElem?_eq_getElem (by rw [hwl]; exact hk)]
    exact h64 _ (List.getElem_mem _)
  rcases keep_or keep k (wl rest) 0 _ (by rw [hsl]; exact hk) hpos with h | ⟨x, hx, h1, h2⟩
  · rw [h, hget] at hr
    unfold scf at hr
    rw [if_neg (by simp)] at hr
    injection hr with hs he
    rw [b64_val hb] at hs
    subst hs he
    refine ⟨?_, fun _ => rfl⟩
    unfold okf
    rw [decide_eq_true rfl]
    rfl
  · unfold wl at hx
    rw [List.mem_filterMap] at hx
    obtain ⟨y, hy, hyx⟩ := hx
    split at hyx
    · injection hyx with hyx
      subst hyx
      have hyk : y.2.1 = (k : Int) := h1
      have ht : tch rest k = true := by
        unfold tch
        rw [List.any_eq_true]
        exact ⟨y, hy, decide_eq_true hyk⟩
      refine ⟨?_, fun hf => by rw [ht] at hf; cases hf⟩
      unfold okf
      rw [Bool.or_eq_true]
      right
      rw [List.any_eq_true]
      refine ⟨y, hy, decide_eq_true ⟨hyk, ?_⟩⟩
      rcases h2 with h2 | h2
      · rw [if_pos h2] at hr
        injection hr with _ he
        exact .inr he.symm
      · rw [h2, if_neg (by simp)] at hr
        injection hr with hs _
        left
        rw [← hs]
        exact b64_val (fil_len _ _)
    · cases hyx
end Go.Proofs.Ytncbhpopobjaiaa

/- What the frame gives of an act on a disk, of a list of acts. -/
namespace Go.Proofs.Ytncbhpopobjaiaa
set_option linter.unusedVariables false
open Go Go.RowKit Go.Deep Go.ChangeShapes Go.WideShapes Go.ChangeAt

/-- What an act in an input is. -/
def okAx (x : Ax) : Prop := (-9223372036854775808 ≤ x.1 ∧ x.1 ≤ 9223372036854775807) ∧ (-9223372036854775808 ≤ x.2.1 ∧ x.2.1 ≤ 9223372036854775807) ∧ (-9223372036854775808 ≤ x.2.2.1 ∧ x.2.2.1 ≤ 9223372036854775807)
theorem u8_wf3 {z : Int} (h : (Lit.int .u8 z).wf = true) : ∃ x : UInt8, z = (x.toNat : Int) := by
  have h2 : 0 ≤ z ∧ z ≤ 255 := by simpa [Lit.wf, IntKind.min, IntKind.max, IntKind.signed, IntKind.bits] using h
  refine ⟨UInt8.ofNat z.toNat, ?_⟩
  rw [UInt8.toNat_ofNat', Nat.mod_eq_of_lt (by omega)]
  omega
theorem one_last {l : List Value} (h : l.length = 5) : ∃ v, (l.drop 4).take 1 = [v] := by
  match l, h with
  | [_, _, _, _, v], _ => exact ⟨v, rfl⟩
section
variable {H : Type} {enc : TypeId × Value → H} {W : World}
end
end Go.Proofs.Ytncbhpopobjaiaa

/- What the frame gives of a slice of ints that lies in a cell; acts on a disk, with what stays. -/
namespace Go.Proofs.Ytncbhpopobjaiaa
set_option linter.unusedVariables false
open Go Go.RowKit Go.Deep Go.ChangeShapes Go.WideShapes Go.ChangeAt

section
variable {H : Type} {enc : TypeId × Value → H} {W : World}
/-- A slice of ints, seen. -/
def SeenI (W : World) (v : Value) (l : List Int) : Prop := ∃ A n c, v = .slice A n c ∧ n ≤ c ∧ c ≤ maxLen ∧ l.length = n ∧ Sees W W.heap.size A (ivs l)
theorem open_intcell {P : Program} {t e : TypeId} {n0 : Nat} {cs : List Value} {x : DataW H × List MemPlace}
    (ht : P.underlying t = some (.slice e)) (he : P.underlying e = some (.int .i64)) (hc : P.cellsOf e = 1) (hf : DataW.trod enc P W 0 (fun _ => true) true n0 t cs = some x) :
    ∃ v l, cs = [v] ∧ SeenI W v l ∧ (∀ z ∈ l, -9223372036854775808 ≤ z ∧ z ≤ 9223372036854775807) := by
  have hlt := DataW.trod_lt n0 _ _ _ hf
  rcases open_ints ht he hc hf with ⟨hcs, hx⟩ | ⟨x, n, c, zs, hcs, hb, hl, hm, hz, hx, hcell, hwz⟩
  · exact ⟨_, [], hcs, ⟨none, 0, 0, rfl, Nat.le_refl _, by simp [maxLen], rfl, Sees.nil_⟩, by simp⟩
  · have hzl : zs.length = c := by simpa using hz
    refine ⟨_, zs.take n, hcs, ⟨some x, n, c, rfl, hl, hm, by simp; omega, fun hpos => ?_⟩, fun z hz' => i64_wf (hwz z (List.mem_of_mem_take hz'))⟩
    simp [ivs] at hpos
    have h0 := hcell 0 (by omega)
    obtain ⟨b, off, spot⟩ := x
    have hspot : spot = none := by simpa [Addr.add] using World.cell?_spot h0
    subst hspot
    refine ⟨b, off, rfl, ?_, fun j hj => ?_⟩
    · rw [hx] at hlt
      have := hlt (.cell b off) (by simp [MemPlace.row]; omega)
      simpa [MemPlace.block] using this
    · simp [ivs] at hj
      have hcj := hcell j (by omega)
      have hjl : j < zs.length := by omega
      have hg : zs.getD j 0 = zs[j] := by simp [hjl]
      rw [add_at, hg] at hcj
      rw [hcj]
      simp [ivs]
def okAk (W : World) (x : Ax) : Prop := okAx x ∧ ∃ l, SeenI W x.2.2.2.2 l
end
end Go.Proofs.Ytncbhpopobjaiaa

/- DiskPlays: how both disks are laid; a disk far from what turns. -/
namespace Go.Proofs.Ytncbhpopobjaiaa
set_option linter.unusedVariables false
set_option linter.unusedSimpArgs false
open Go Go.RowKit

set_option maxRecDepth 100000 in
theorem new_low (n : Int) (w : World) (h : n < 1) : Calls Try.prog 15 #[.int .i64 n] w fun e w' => e = .returned (.pointer none) ∧ w = w' := by
  have d1 : decide (n < 1) = true := decide_eq_true h
  clear h
  go_enter Try.func15, Try.ntmps15
  go_wp2_with fail
  go_ret
  exact ⟨rfl, rfl⟩
set_option maxRecDepth 100000 in
theorem new_high (n : Int) (w : World) (h : 2048 < n) : Calls Try.prog 15 #[.int .i64 n] w fun e w' => e = .returned (.pointer none) ∧ w = w' := by
  have d1 : decide (n < 1) = false := decide_eq_false (by omega)
  have d2 : decide (2048 < n) = true := decide_eq_true h
  clear h
  go_enter Try.func15, Try.ntmps15
  go_wp2_with fail
  go_ret
  exact ⟨rfl, rfl⟩
theorem DkAt.far {w w' : World} {L g b g' b' : Nat} {r r' : Option Nat} {D : Dk} (h : DkAt w L g' b' r' D) (T : Turn3 w w' g b r) (hg : g < L) (hb : b < L) (hr : ∀ k, r = some k → k < L) : DkAt w' L g' b' r' D := by
  have hrow := h.row
  obtain ⟨⟨A, c, B, h1, e1⟩, h2, h3, h4, h5, h6, h7⟩ := h
  have fr : ∀ k, L ≤ k → r ≠ some k := fun k hk e => by have := hr k e; omega
  refine ⟨⟨A, c, T.blk B (by omega) (by omega) (fr _ h6), row_block h1 (fun k hk => ?_), e1⟩, T.blk h2 (by omega) (by omega) (fr _ h7), h3, h4, h5, h6, h7⟩
  rw [← e1] at hk
  have hl := (hrow k hk).1
  exact T.block k (hrow k hk).2 (by omega) (by omega) (fun e => fr k hl e.symm)
theorem both_new {w w1 w2 : World} {n : Nat} {A : Option Addr} {c : Nat} (h : DkAt w1 w.heap.size (w.heap.size + 1) w.heap.size none (dnew n)) (hr : w2.ownsRow w1.heap.size 9 1 (.slice A n c) n (stc (dnew n).s)) (hb1 : Below w.heap.size w w1) (hb2 : Below w1.heap.size w1 w2) :
    Both ((w2.alloc (.cells #[.slice none 0 0, .slice none 0 0, .int .i64 0, .bool false] 43)).setCells w2.heap.size 0 [.slice A n c, .slice none 0 0, .int .i64 (-1), .bool false]) w.heap.size (w.heap.size + 1) w.heap.size none w2.heap.size (Value.slice A n c).ownBlock none (dnew n) ∧
      Below w.heap.size w ((w2.alloc (.cells #[.slice none 0 0, .slice none 0 0, .int .i64 0, .bool false] 43)).setCells w2.heap.size 0 [.slice A n c, .slice none 0 0, .int .i64 (-1), .bool false]) := by
  have hl := h.lt
  have hz := hb2.size
  have hz0 := hb1.size
  have hrl := row_lt hr
  have B := (Blk.new w2 [.slice none 0 0, .slice none 0 0, .int .i64 0, .bool false] 43).sets [.slice A n c, .slice none 0 0, .int .i64 (-1), .bool false] 0 (by simp)
  have L2 : Below w2.heap.size w2 ((w2.alloc (.cells #[.slice none 0 0, .slice none 0 0, .int .i64 0, .bool false] 43)).setCells w2.heap.size 0 [.slice A n c, .slice none 0 0, .int .i64 (-1), .bool false]) :=
    below_sets (Nat.le_refl _) _ 0 ((Below.refl w2.heap.size w2).alloc (Nat.le_refl _) _)
  have hsl : (dnew n).s.length = n := by simp [dnew]
  refine ⟨⟨(h.later hb2).later L2, ⟨⟨A, c, none, 0, ?_, ?_, World.ownsRow_nil _ _ _ _, by rw [hsl], rfl⟩, ?_, by simp, by omega⟩, by omega, by omega, by simp, ?_, ?_, by simp, by simp, by simp, by simp⟩, (hb1.trans (hb2.mono hz0)).trans (L2.mono (by omega))⟩
  · rw [hsl]
    exact B
  · rw [hsl]
    exact row_lower (row_later hr L2) (by omega)
  · intro e
    have := (hrl _ e).2
    omega
  · intro e
    have := (hrl _ e).1
    omega
  · intro e
    have := (hrl _ e).1
    omega
theorem RfAt.hand {w : World} {L m : Nat} {q p : Option Nat} {D : Dk} (h : RfAt w L m q p D) : ∃ A c A' c', w.rangeAt m 0 [.slice A D.s.length c, .slice A' D.w.length c', .int .i64 D.fuse, .bool D.dead] ∧ Sees w w.heap.size A (stc D.s) ∧ Sees w w.heap.size A' (rws wtl D.w) := by
  obtain ⟨A, c, A', c', B, h1, h2, _⟩ := h.at_
  exact ⟨A, c, A', c', B.range 0 _ rfl, row_sees h1, row_sees h2⟩
theorem both_clone {w4 w5 w6 w8 : World} {L g b m g' b' : Nat} {r q p r' : Option Nat} {D : Dk} (h : Both w4 L g b r m q p D) (he : DkAt w5 w4.heap.size g' b' r' D) (hb5 : Below w4.heap.size w4 w5) (hb6 : Below w5.heap.size w5 w6) (T : Turn3 w6 w8 g b r) (hL : L ≤ w4.heap.size) :
    Both w8 L g' b' r' m q p D ∧ Below L w4 w8 := by
  have hg := h.dk.lt
  have hm := h.rf.lt
  have hr := h.dk.row
  have hqp := h.rf.rows
  have h6 : Both w6 L g b r m q p D := h.later (hb5.trans (hb6.mono hb5.size))
  have he8 := (he.later hb6).far T hg.1 hg.2 (fun k hk => (hr k hk).2)
  have hrow := he.row
  have fr : ∀ (x : Option Nat), (∀ k, x = some k → L ≤ k ∧ k < w4.heap.size) → ∀ j, w4.heap.size ≤ j → x ≠ some j := fun x hx j hj e => by have := (hx j e).2; omega
  refine ⟨⟨he8.lower hL, h6.mid T, ?_, ?_, fun e => ?_, fr q hqp.1 _ he.Lg, fr q hqp.1 _ he.Lb, fun k hk => fr q hqp.1 _ (hrow k hk).1, fr p hqp.2 _ he.Lg, fr p hqp.2 _ he.Lb, fun k hk => fr p hqp.2 _ (hrow k hk).1⟩, ?_⟩
  · have := he.Lg
    omega
  · have := he.Lb
    omega
  · have := (hrow _ e).1
    omega
  · have z6 : w4.heap.size ≤ w6.heap.size := Nat.le_trans hb5.size hb6.size
    exact ((hb5.trans (hb6.mono hb5.size)).mono hL).trans (T.below h6.dk.Lg h6.dk.Lb (fun k hk => (h6.dk.row k hk).1) (by omega))
end Go.Proofs.Ytncbhpopobjaiaa
