/- NetPlays: the law's walk. -/
import Derived.Test.YtlagodbkkkdmkaaNetX
import Derived.Test.YtlagodbkkkdmkaaNetQ
namespace Go.Proofs.Ytlagodbkkkdmkaa
set_option linter.unusedVariables false
set_option linter.unusedSimpArgs false
open Go Go.RowKit Go.MuLone

set_option maxRecDepth 100000 in
set_option maxHeartbeats 6400000 in
theorem walk_plays (A : Option Addr) (n c : Nat) (l : List Nd) (w : World) (hn : l.length = n) (hs : Sees w w.heap.size A (ncs l)) (hnc : n ≤ c) (hok : ∀ z ∈ l, okNd z) :
    Calls Try.prog 5 #[.slice A n c] w fun e w' => e = .returned (.bool true) ∧ Below w.heap.size w w' := by
  have HL := Lib.hid (fun wx B (hx : Sees wx B A (ncs l)) => along_any A n c l wx B hn hx)
  obtain ⟨lb, hlb⟩ : ∃ lb, lb = alng l := ⟨_, rfl⟩
  rw [← hlb] at HL
  have HN := Lib.hid hn
  have hu := Try.underlying58
  have hup := Try.underlying56
  have huq := Try.underlying59
  have hn100 : lb = false → n ≤ 100 := fun e => by
    rw [hlb] at e
    unfold alng at e
    simp only [Bool.or_eq_false_iff, decide_eq_false_iff_not, hn] at e
    omega
  clear hn hlb
  cases lb with
  | true =>
    clear hn100
    go_enter Try.func5, Try.ntmps5
    go_wp2_with fail
    refine (HL.out _ _ hs).mono ?_
    rintro e w1 ⟨rfl, rfl⟩
    go_wp2_with fail
    refine (naw_any _).mono ?_
    rintro e w1 ⟨rfl, hb⟩
    go_wp2_with fail
    go_ret
    exact ⟨rfl, hb⟩
  | false =>
    replace hn100 := hn100 rfl
    go_enter Try.func5, Try.ntmps5
    go_wp2_with fail
    refine (HL.out _ _ hs).mono ?_
    rintro e w1 ⟨rfl, rfl⟩
    clear HL
    go_wp2_with fail
    refine (net_new _).mono ?_
    rintro e w1 ⟨rfl, N1, hb1⟩
    go_wp2_with fail
    have HI : Hid (NR w (w1.alloc (.cells #[] 56)) w.heap.size [] [] (some ⟨w1.heap.size, 0, none⟩) 0) := Lib.hid (by
      have hb2 := (Below.refl w1.heap.size w1).alloc (Nat.le_refl _) (.cells #[] 56)
      have hlt : w.heap.size < w1.heap.size := by obtain ⟨_, _, B, _⟩ := N1; exact B.lt
      exact ⟨⟨none, N1.later hb2, .inr (by simp [Value.ownBlock]), by simp⟩, row_lit w1 (w.heap.size + 1) _ 3 0 #[] (by omega) (by simp [maxLen]) rfl, Nat.le_refl _, hb1.trans (hb2.mono hb1.size)⟩)
    go_loopw [5, 4] (fun i v wr => ∃ (k : Nat) (s : List V3) (ad : Addr) (cS sn : Nat), k ≤ n ∧ i = .int .i64 k ∧ v = .slice (some ad) sn cS ∧ Hid (s.length = sn) ∧ sn ≤ 40 ∧ Hid (NR w wr w.heap.size s s (some ad) cS)) (fun i _ _ => n - (intOf i).toNat)
    case atStart => exact ⟨0, [], _, 0, 0, Nat.zero_le _, rfl, rfl, Lib.hid rfl, by omega, HI⟩
    case round =>
      clear N1 hb1 HI
      obtain ⟨k, s, ad, cS, sn, hk, rfl, rfl, HSN, hs40, HI⟩ := hrel
      by_cases hlt : k < n
      · have d1 : decide ((k : Int) < (n : Int)) = true := by simp; omega
        have hkl : k < l.length := by rw [HN.out]; exact hlt
        have hbr := HI.out.below
        obtain ⟨b, o, rfl, hb, hcc, hc2, hrg⟩ := sees_node ((hs.below hbr).more hbr.size) k hkl
        clear hcc hc2
        obtain ⟨W1, hW1⟩ : ∃ W1, W1 = (wr.alloc (.cells #[.int .i64 0, .int .i64 0, .int .i64 0, .int .i64 0, .string ⟨#[]⟩] 58)).setCells wr.heap.size 0 (ncells l[k]) := ⟨_, rfl⟩
        obtain ⟨F1, B1, z1⟩ := act_put wr W1 l[k] _ rfl hW1
        have TH1 := act_there wr
        have HW1 := Lib.hid hW1
        obtain ⟨nc, hnc2⟩ : ∃ nc, nc = ncells l[k] := ⟨_, rfl⟩
        have HSZ := Lib.hid (show nc.length = 5 by rw [hnc2]; rfl)
        have HONE := Lib.hid (hnc2 ▸ act_one l[k])
        rw [← hnc2] at hrg HW1
        obtain ⟨⟨kd, kk, p⟩, hx⟩ : ∃ x, x = l[k] := ⟨_, rfl⟩
        rw [← hx] at F1
        obtain ⟨Wa, hWa⟩ : ∃ Wa, Wa = ((W1.alloc (.cells #[.int .i64 0, .int .i64 0, .string ⟨#[]⟩] 59)).alloc (.cells #[.int .i64 0, .int .i64 0, .string ⟨#[]⟩] 56)).setCells W1.heap.size 0 (vcells zv) := ⟨_, rfl⟩
        obtain ⟨W2, hW2⟩ : ∃ W2, W2 = Wa.setCells (W1.heap.size + 1) 0 (vcells zv) := ⟨_, rfl⟩
        obtain ⟨X2, Y2, B2, THY⟩ := xy_put W1 Wa W2 hWa hW2
        have THX : ((W1.alloc (.cells #[.int .i64 0, .int .i64 0, .string ⟨#[]⟩] 59)).alloc (.cells #[.int .i64 0, .int .i64 0, .string ⟨#[]⟩] 56)).there W1.heap.size 0 3 := ((Blk.new W1 (vcells zv) 59).alloc _).there 0 3 (by simp [vcells])
        have F2 := F1.later B2
        have B12 := B1.trans (B2.mono B1.size)
        obtain ⟨r, hNF⟩ := NF.of (bs := [(W1.heap.size, vcells zv), (W1.heap.size + 1, vcells zv), (wr.heap.size, ncells (kd, kk, p))]) HI.out B12 (fun b cs hb => by
          simp only [List.mem_cons, List.not_mem_nil, or_false, Prod.mk.injEq] at hb
          rcases hb with ⟨rfl, rfl⟩ | ⟨rfl, rfl⟩ | ⟨rfl, rfl⟩
          · exact ⟨X2, by omega⟩
          · exact ⟨Y2, by omega⟩
          · exact ⟨F2, Nat.le_refl _⟩)
        have h0 := F2.cell (j := 0) rfl
        have h1 := F2.cell (j := 1) rfl
        have RP := Lib.hid (F2.range 2 (vcells p) (by simp [ncells, vcells]))
        have HWa := Lib.hid hWa
        have HW2 := Lib.hid hW2
        have HNF := Lib.hid hNF
        have HZ1 := Lib.hid z1
        clear hnc2 hW1 F1 hbr HI B1 hx hWa hW2 X2 Y2 B2 B12 F2 hNF z1
        by_cases hk0 : kd = 0
        · subst hk0
          have HT0 := Lib.hid (fun wx => net_to p wx)
          have HS0 := Lib.hid (net_Send W2 w.heap.size r s p)
          go_wp2_with (first
            | (refine wpList_load_mid rfl 58 (.tmp 32) rfl b (o + k * 5) rfl nc _ hrg hu rfl (by rw [HSZ.out]; exact info_act) ?_)
            | (refine wpList_store_mid rfl 58 (.tmp 6) (.tmp 33) rfl wr.heap.size 0 nc.toArray rfl rfl (by simpa [HSZ.out] using TH1) (by simpa [HSZ.out] using info_act) (all_oneCell_toArray HONE.out) ?_
               rw [show (wr.alloc (.cells #[.int .i64 0, .int .i64 0, .int .i64 0, .int .i64 0, .string ⟨#[]⟩] 58)).setCells wr.heap.size 0 nc.toArray.toList = W1 from HW1.out.symm])
            | (refine wpList_store_mid rfl 59 (.tmp 7) (.tmp 34) rfl W1.heap.size 0 (vcells zv).toArray rfl rfl THX info_pk (all_oneCell_toArray (vcells_one zv)) ?_
               rw [show ((W1.alloc (.cells #[.int .i64 0, .int .i64 0, .string ⟨#[]⟩] 59)).alloc (.cells #[.int .i64 0, .int .i64 0, .string ⟨#[]⟩] 56)).setCells W1.heap.size 0 (vcells zv).toArray.toList = Wa from HWa.out.symm])
            | (refine wpList_store_mid rfl 56 (.tmp 9) (.tmp 35) rfl (W1.heap.size + 1) 0 (vcells zv).toArray rfl rfl THY info_rpk (all_oneCell_toArray (vcells_one zv)) ?_
               rw [show Wa.setCells (W1.heap.size + 1) 0 (vcells zv).toArray.toList = W2 from HW2.out.symm])
            | (refine wpList_load_mid rfl 56 (.tmp 55) rfl wr.heap.size 2 rfl (vcells p) _ RP.out hup rfl info_rpk ?_)
            | fail)
          refine (HT0.out _).mono ?_
          rintro e w3 ⟨rfl, hb3⟩
          have HNF3 := Lib.hid (HNF.out.later hb3)
          obtain ⟨bb, hbb⟩ : ∃ bb, bb = decide (s.length < 40) := ⟨_, rfl⟩
          have HBB := Lib.hid hbb
          have HS1 := Lib.hid (net_Send w3 w.heap.size r s p HNF3.out.net)
          rw [← hbb] at HS1
          clear hbb HS0 HNF
          go_wp2_with fail
          refine HS1.out.mono ?_
          rintro e w4 ⟨r4, rfl, N4, T4, hr4⟩
          have HNF4 := Lib.hid (HNF3.out.turn N4 T4 hr4)
          have HP4 := Lib.hid ((HNF4.out.blks wr.heap.size (ncells (0, kk, p)) (by simp)).1.range 2 (vcells p) (by simp [ncells, vcells]))
          have HR4 := Lib.hid (rsend_any w4 ad cS sn s p HSN.out HNF4.out.nr.sees)
          rw [HBB.out.symm] at HR4
          obtain ⟨s2, hs2e⟩ : ∃ s2, s2 = if s.length < 40 then s ++ [p] else s := ⟨_, rfl⟩
          have HS2 := Lib.hid hs2e
          rw [← hs2e] at HNF4 HR4
          clear hs2e HNF3 N4 T4 hr4 HS1 hb3 RP h0 h1 TH1 HW1 HSZ HONE THX THY HWa HW2 hrg
          go_wp2_with (first
            | (refine wpList_load_mid rfl 56 (.tmp 61) rfl wr.heap.size 2 rfl (vcells p) _ HP4.out hup rfl info_rpk ?_)
            | fail)
          refine HR4.out.mono ?_
          rintro e wE ⟨ad2, n2, c2, rfl, hrs⟩
          have HNFE := Lib.hid (HNF4.out.rs HSN.out hrs)
          have HN2 := Lib.hid hrs.2.1.symm
          have hs2 : n2 ≤ 40 := by
            rw [hrs.2.1, HS2.out]
            have := HSN.out
            split
            · rw [List.length_append]; simp; omega
            · omega
          clear HNF4 hrs HR4 HP4 HS2 HT0
          go_wp2_with fail

          have HX := Lib.hid (HNFE.out.at)
          have HY := Lib.hid (HNFE.out.swap.at)
          have HT := Lib.hid (fun wx => net_to zv wx)
          have HLN := Lib.hid (fun wx (hl : Below wE.heap.size wE wx) => net_len2 wx w.heap.size r4 s2 (HNFE.out.later hl).net)
          rw [HN2.out] at HLN
          have dn : ((((n2 : Nat) : Int)) != (((n2 : Nat) : Int))) = false := by simp
          have db : (bb != bb) = false := by simp
          clear HSN HZ1 HBB
          refine wp_region_steady [] 170 (by kernel_rfl) (by kernel_rfl) (by kernel_rfl) (by rfl) ?_
          refine wpG_run (by rfl) (by rfl) (.agg (vcells zv).toArray) (fun w1 hl => exec_load 59 (.tmp 7) rfl W1.heap.size 0 rfl (vcells zv) _ ((HX.out.later hl.1).range 0 _ (by simp [vcells])) huq rfl info_pk) ?_
          simp only [Act.put, List.setIfInBounds_toArray, List.set_cons_zero, List.set_cons_succ]
          refine wpG_run (by rfl) (by rfl) (.agg (vcells zv).toArray) (fun w1 hl => exec_load 56 (.tmp 9) rfl (W1.heap.size + 1) 0 rfl (vcells zv) _ ((HY.out.later hl.1).range 0 _ (by simp [vcells])) hup rfl info_rpk) ?_
          simp only [Act.put, List.setIfInBounds_toArray, List.set_cons_zero, List.set_cons_succ]
          refine wpG_call (by rfl) (by rfl) 26 #[.agg (vcells zv).toArray] (.agg (vcells zv).toArray) (by intro _; simp [go_sem]) (by kernel_rfl) (fun w1 hl => HT.out w1) ?_
          simp only [Act.put, List.setIfInBounds_toArray, List.set_cons_zero, List.set_cons_succ]
          refine wpG_run (by rfl) (by rfl) (.bool false) (fun w1 hl => (exec_neq 59 _ (.tmp 96) (.tmp 98) rfl (vcells zv).toArray (vcells zv).toArray rfl rfl guard_pk _ (eq_pk 9998 zv zv w1)).trans (by simp)) ?_
          simp only [Act.put, List.setIfInBounds_toArray, List.set_cons_zero, List.set_cons_succ]
          iterate 7 (refine wpG_quiet (by rfl) (by rfl) (by rfl) (fun K hK => ?_); go_big_quiet_op; refine hK _ ?_; clear hK K)
          refine wpG_call (by rfl) (by rfl) 34 #[.pointer (some ⟨w.heap.size, 0, none⟩)] (.int .i64 n2) (by intro _; simp [go_sem]) (by kernel_rfl) (fun w1 hl => HLN.out w1 hl.1) ?_
          simp only [Act.put, List.setIfInBounds_toArray, List.set_cons_zero, List.set_cons_succ]
          iterate 4 (refine wpG_quiet (by rfl) (by rfl) (by rfl) (fun K hK => ?_); go_big_quiet_op; refine hK _ ?_; clear hK K)
          refine wpG_nil fun wz hlz _ => ?_
          have HIZ := Lib.hid ((HNFE.out.later hlz).nr)
          clear HX HY HT HLN hlz HNFE
          go_wp2_with fail
          go_roundw
          case rel => exact ⟨k + 1, s2, ad2, c2, n2, by omega, by go_num, rfl, HN2, hs2, HIZ⟩
          case measure => simp [intOf]; omega
        · by_cases hk1 : kd = 1
          · subst hk1
            have e0 : ((1 : Int) == 0) = false := rfl
            clear hk0
            have HS0 := Lib.hid (net_Take W2 w.heap.size r s kk HNF.out.net (by rw [HSN.out]; exact hs40))
            obtain ⟨bb, hbb⟩ : ∃ bb, bb = pkIs s kk := ⟨_, rfl⟩
            have HBB := Lib.hid hbb
            obtain ⟨q, hq⟩ : ∃ q, q = pkAt s kk := ⟨_, rfl⟩
            have HQ := Lib.hid hq
            obtain ⟨s2, hs2e⟩ : ∃ s2, s2 = tkl s kk := ⟨_, rfl⟩
            have HS2 := Lib.hid hs2e
            rw [← hbb, ← hs2e, ← hq] at HS0
            clear hbb hs2e hq
            go_wp2_with (first
              | (refine wpList_load_mid rfl 58 (.tmp 32) rfl b (o + k * 5) rfl nc _ hrg hu rfl (by rw [HSZ.out]; exact info_act) ?_)
              | (refine wpList_store_mid rfl 58 (.tmp 6) (.tmp 33) rfl wr.heap.size 0 nc.toArray rfl rfl (by simpa [HSZ.out] using TH1) (by simpa [HSZ.out] using info_act) (all_oneCell_toArray HONE.out) ?_
                 rw [show (wr.alloc (.cells #[.int .i64 0, .int .i64 0, .int .i64 0, .int .i64 0, .string ⟨#[]⟩] 58)).setCells wr.heap.size 0 nc.toArray.toList = W1 from HW1.out.symm])
              | (refine wpList_store_mid rfl 59 (.tmp 7) (.tmp 34) rfl W1.heap.size 0 (vcells zv).toArray rfl rfl THX info_pk (all_oneCell_toArray (vcells_one zv)) ?_
                 rw [show ((W1.alloc (.cells #[.int .i64 0, .int .i64 0, .string ⟨#[]⟩] 59)).alloc (.cells #[.int .i64 0, .int .i64 0, .string ⟨#[]⟩] 56)).setCells W1.heap.size 0 (vcells zv).toArray.toList = Wa from HWa.out.symm])
              | (refine wpList_store_mid rfl 56 (.tmp 9) (.tmp 35) rfl (W1.heap.size + 1) 0 (vcells zv).toArray rfl rfl THY info_rpk (all_oneCell_toArray (vcells_one zv)) ?_
                 rw [show Wa.setCells (W1.heap.size + 1) 0 (vcells zv).toArray.toList = W2 from HW2.out.symm])
              | fail)
            refine HS0.out.mono ?_
            rintro e w4 ⟨r4, rfl, N4, T4, hr4⟩
            have hNF4 := HNF.out.turn N4 T4 hr4
            have THQ := hNF4.at.there 0 3 (by simp [vcells])
            obtain ⟨w5, hw5⟩ : ∃ w5, w5 = w4.setCells W1.heap.size 0 (vcells q) := ⟨_, rfl⟩
            have hNF5 := hNF4.store (vs := vcells q) (by simp [vcells]) (fun k' cs' hk' => by
              simp only [List.mem_cons, List.not_mem_nil, or_false, Prod.mk.injEq] at hk'
              have := HZ1.out
              rcases hk' with ⟨rfl, _⟩ | ⟨rfl, _⟩ <;> omega)
            rw [← hw5] at hNF5
            have HNF5 := Lib.hid hNF5
            have HW5 := Lib.hid hw5
            have h15 := (HNF5.out.blks wr.heap.size (ncells (1, kk, p)) (by simp)).1.cell (j := 1) rfl
            have HR5 := Lib.hid (rtake_any w5 ad cS sn s kk HSN.out HNF5.out.nr.sees hs40 (by have := HNF5.out.nr.cap; rw [HSN.out] at this; exact this))
            rw [← HBB.out, ← HS2.out, ← HQ.out] at HR5
            clear HNF N4 T4 hr4 HS0 RP h0 h1 TH1 HW1 HSZ HONE THX THY HWa HW2 hrg hNF4 hNF5 hw5
            go_wp2_with (first
              | (refine wpList_store_mid rfl 59 (.tmp 7) (.tmp 73) rfl W1.heap.size 0 (vcells q).toArray rfl rfl THQ info_pk (all_oneCell_toArray (vcells_one q)) ?_
                 rw [show w4.setCells W1.heap.size 0 (vcells q).toArray.toList = w5 from HW5.out.symm])
              | fail)
            refine HR5.out.mono ?_
            rintro e w6 ⟨ad2, n2, c2, rfl, hrs⟩
            have hNF6 := (HNF5.out.rs HSN.out hrs).swap
            have THY6 := hNF6.at.there 0 3 (by simp [vcells])
            obtain ⟨wE, hwE⟩ : ∃ wE, wE = w6.setCells (W1.heap.size + 1) 0 (vcells q) := ⟨_, rfl⟩
            have hNF7 := hNF6.store (vs := vcells q) (by simp [vcells]) (fun k' cs' hk' => by
              simp only [List.mem_cons, List.not_mem_nil, or_false, Prod.mk.injEq] at hk'
              have := HZ1.out
              rcases hk' with ⟨rfl, _⟩ | ⟨rfl, _⟩ <;> omega)
            rw [← hwE] at hNF7
            have HNFE := Lib.hid hNF7.swap
            have HWE := Lib.hid hwE
            have HN2 := Lib.hid hrs.2.1.symm
            have hs2 : n2 ≤ 40 := by
              rw [hrs.2.1, HS2.out]
              exact tkl_len s kk (by rw [HSN.out]; exact hs40)
            clear HNF5 hrs HR5 h15 hNF6 hNF7 hwE THQ HW5
            go_wp2_with (first
              | (refine wpList_store_mid rfl 56 (.tmp 9) (.tmp 81) rfl (W1.heap.size + 1) 0 (vcells q).toArray rfl rfl THY6 info_rpk (all_oneCell_toArray (vcells_one q)) ?_
                 rw [show w6.setCells (W1.heap.size + 1) 0 (vcells q).toArray.toList = wE from HWE.out.symm])
              | fail)

            have HX := Lib.hid (HNFE.out.at)
            have HY := Lib.hid (HNFE.out.swap.at)
            have HT := Lib.hid (fun wx => net_to q wx)
            have HLN := Lib.hid (fun wx (hl : Below wE.heap.size wE wx) => net_len2 wx w.heap.size r4 s2 (HNFE.out.later hl).net)
            rw [HN2.out] at HLN
            have dn : ((((n2 : Nat) : Int)) != (((n2 : Nat) : Int))) = false := by simp
            have db : (bb != bb) = false := by simp
            clear HSN HZ1 HBB THY6 HWE HQ HS2
            refine wp_region_steady [] 170 (by kernel_rfl) (by kernel_rfl) (by kernel_rfl) (by rfl) ?_
            refine wpG_run (by rfl) (by rfl) (.agg (vcells q).toArray) (fun w1 hl => exec_load 59 (.tmp 7) rfl W1.heap.size 0 rfl (vcells q) _ ((HX.out.later hl.1).range 0 _ (by simp [vcells])) huq rfl info_pk) ?_
            simp only [Act.put, List.setIfInBounds_toArray, List.set_cons_zero, List.set_cons_succ]
            refine wpG_run (by rfl) (by rfl) (.agg (vcells q).toArray) (fun w1 hl => exec_load 56 (.tmp 9) rfl (W1.heap.size + 1) 0 rfl (vcells q) _ ((HY.out.later hl.1).range 0 _ (by simp [vcells])) hup rfl info_rpk) ?_
            simp only [Act.put, List.setIfInBounds_toArray, List.set_cons_zero, List.set_cons_succ]
            refine wpG_call (by rfl) (by rfl) 26 #[.agg (vcells q).toArray] (.agg (vcells q).toArray) (by intro _; simp [go_sem]) (by kernel_rfl) (fun w1 hl => HT.out w1) ?_
            simp only [Act.put, List.setIfInBounds_toArray, List.set_cons_zero, List.set_cons_succ]
            refine wpG_run (by rfl) (by rfl) (.bool false) (fun w1 hl => (exec_neq 59 _ (.tmp 96) (.tmp 98) rfl (vcells q).toArray (vcells q).toArray rfl rfl guard_pk _ (eq_pk 9998 q q w1)).trans (by simp)) ?_
            simp only [Act.put, List.setIfInBounds_toArray, List.set_cons_zero, List.set_cons_succ]
            iterate 7 (refine wpG_quiet (by rfl) (by rfl) (by rfl) (fun K hK => ?_); go_big_quiet_op; refine hK _ ?_; clear hK K)
            refine wpG_call (by rfl) (by rfl) 34 #[.pointer (some ⟨w.heap.size, 0, none⟩)] (.int .i64 n2) (by intro _; simp [go_sem]) (by kernel_rfl) (fun w1 hl => HLN.out w1 hl.1) ?_
            simp only [Act.put, List.setIfInBounds_toArray, List.set_cons_zero, List.set_cons_succ]
            iterate 4 (refine wpG_quiet (by rfl) (by rfl) (by rfl) (fun K hK => ?_); go_big_quiet_op; refine hK _ ?_; clear hK K)
            refine wpG_nil fun wz hlz _ => ?_
            have HIZ := Lib.hid ((HNFE.out.later hlz).nr)
            clear HX HY HT HLN hlz HNFE
            go_wp2_with fail
            go_roundw
            case rel => exact ⟨k + 1, s2, ad2, c2, n2, by omega, by go_num, rfl, HN2, hs2, HIZ⟩
            case measure => simp [intOf]; omega
          · by_cases hk2 : kd = 2
            · subst hk2
              have e0 : ((2 : Int) == 0) = false := rfl
              have e1 : ((2 : Int) == 1) = false := rfl
              clear hk0 hk1
              have HS0 := Lib.hid (net_Twice W2 w.heap.size r s kk HNF.out.net)
              obtain ⟨bb, hbb⟩ : ∃ bb, bb = (pkIs s kk && decide (s.length < 40)) := ⟨_, rfl⟩
              have HBB := Lib.hid hbb
              obtain ⟨s2, hs2e⟩ : ∃ s2, s2 = if pkIs s kk = true ∧ s.length < 40 then s ++ [pkAt s kk] else s := ⟨_, rfl⟩
              have HS2 := Lib.hid hs2e
              rw [← hbb, ← hs2e] at HS0
              clear hbb hs2e
              go_wp2_with (first
                | (refine wpList_load_mid rfl 58 (.tmp 32) rfl b (o + k * 5) rfl nc _ hrg hu rfl (by rw [HSZ.out]; exact info_act) ?_)
                | (refine wpList_store_mid rfl 58 (.tmp 6) (.tmp 33) rfl wr.heap.size 0 nc.toArray rfl rfl (by simpa [HSZ.out] using TH1) (by simpa [HSZ.out] using info_act) (all_oneCell_toArray HONE.out) ?_
                   rw [show (wr.alloc (.cells #[.int .i64 0, .int .i64 0, .int .i64 0, .int .i64 0, .string ⟨#[]⟩] 58)).setCells wr.heap.size 0 nc.toArray.toList = W1 from HW1.out.symm])
                | (refine wpList_store_mid rfl 59 (.tmp 7) (.tmp 34) rfl W1.heap.size 0 (vcells zv).toArray rfl rfl THX info_pk (all_oneCell_toArray (vcells_one zv)) ?_
                   rw [show ((W1.alloc (.cells #[.int .i64 0, .int .i64 0, .string ⟨#[]⟩] 59)).alloc (.cells #[.int .i64 0, .int .i64 0, .string ⟨#[]⟩] 56)).setCells W1.heap.size 0 (vcells zv).toArray.toList = Wa from HWa.out.symm])
                | (refine wpList_store_mid rfl 56 (.tmp 9) (.tmp 35) rfl (W1.heap.size + 1) 0 (vcells zv).toArray rfl rfl THY info_rpk (all_oneCell_toArray (vcells_one zv)) ?_
                   rw [show Wa.setCells (W1.heap.size + 1) 0 (vcells zv).toArray.toList = W2 from HW2.out.symm])
                | fail)
              refine HS0.out.mono ?_
              rintro e w4 ⟨r4, rfl, N4, T4, hr4⟩
              have HNF4 := Lib.hid (HNF.out.turn N4 T4 hr4)
              have h14 := (HNF4.out.blks wr.heap.size (ncells (2, kk, p)) (by simp)).1.cell (j := 1) rfl
              have HR4 := Lib.hid (rtwice_any w4 ad cS sn s kk HSN.out HNF4.out.nr.sees hs40)
              rw [← HBB.out, ← HS2.out] at HR4
              clear HNF N4 T4 hr4 HS0 RP h0 h1 TH1 HW1 HSZ HONE THX THY HWa HW2 hrg
              go_wp2_with fail
              refine HR4.out.mono ?_
              rintro e wE ⟨ad2, n2, c2, rfl, hrs⟩
              have HNFE := Lib.hid (HNF4.out.rs HSN.out hrs)
              have HN2 := Lib.hid hrs.2.1.symm
              have hs2 : n2 ≤ 40 := by
                rw [hrs.2.1, HS2.out]
                have := HSN.out
                split
                · rw [List.length_append]; simp; omega
                · omega
              clear HNF4 hrs HR4 h14 HS2
              go_wp2_with fail

              have HX := Lib.hid (HNFE.out.at)
              have HY := Lib.hid (HNFE.out.swap.at)
              have HT := Lib.hid (fun wx => net_to zv wx)
              have HLN := Lib.hid (fun wx (hl : Below wE.heap.size wE wx) => net_len2 wx w.heap.size r4 s2 (HNFE.out.later hl).net)
              rw [HN2.out] at HLN
              have dn : ((((n2 : Nat) : Int)) != (((n2 : Nat) : Int))) = false := by simp
              have db : (bb != bb) = false := by simp
              clear HSN HZ1 HBB
              refine wp_region_steady [] 170 (by kernel_rfl) (by kernel_rfl) (by kernel_rfl) (by rfl) ?_
              refine wpG_run (by rfl) (by rfl) (.agg (vcells zv).toArray) (fun w1 hl => exec_load 59 (.tmp 7) rfl W1.heap.size 0 rfl (vcells zv) _ ((HX.out.later hl.1).range 0 _ (by simp [vcells])) huq rfl info_pk) ?_
              simp only [Act.put, List.setIfInBounds_toArray, List.set_cons_zero, List.set_cons_succ]
              refine wpG_run (by rfl) (by rfl) (.agg (vcells zv).toArray) (fun w1 hl => exec_load 56 (.tmp 9) rfl (W1.heap.size + 1) 0 rfl (vcells zv) _ ((HY.out.later hl.1).range 0 _ (by simp [vcells])) hup rfl info_rpk) ?_
              simp only [Act.put, List.setIfInBounds_toArray, List.set_cons_zero, List.set_cons_succ]
              refine wpG_call (by rfl) (by rfl) 26 #[.agg (vcells zv).toArray] (.agg (vcells zv).toArray) (by intro _; simp [go_sem]) (by kernel_rfl) (fun w1 hl => HT.out w1) ?_
              simp only [Act.put, List.setIfInBounds_toArray, List.set_cons_zero, List.set_cons_succ]
              refine wpG_run (by rfl) (by rfl) (.bool false) (fun w1 hl => (exec_neq 59 _ (.tmp 96) (.tmp 98) rfl (vcells zv).toArray (vcells zv).toArray rfl rfl guard_pk _ (eq_pk 9998 zv zv w1)).trans (by simp)) ?_
              simp only [Act.put, List.setIfInBounds_toArray, List.set_cons_zero, List.set_cons_succ]
              iterate 7 (refine wpG_quiet (by rfl) (by rfl) (by rfl) (fun K hK => ?_); go_big_quiet_op; refine hK _ ?_; clear hK K)
              refine wpG_call (by rfl) (by rfl) 34 #[.pointer (some ⟨w.heap.size, 0, none⟩)] (.int .i64 n2) (by intro _; simp [go_sem]) (by kernel_rfl) (fun w1 hl => HLN.out w1 hl.1) ?_
              simp only [Act.put, List.setIfInBounds_toArray, List.set_cons_zero, List.set_cons_succ]
              iterate 4 (refine wpG_quiet (by rfl) (by rfl) (by rfl) (fun K hK => ?_); go_big_quiet_op; refine hK _ ?_; clear hK K)
              refine wpG_nil fun wz hlz _ => ?_
              have HIZ := Lib.hid ((HNFE.out.later hlz).nr)
              clear HX HY HT HLN hlz HNFE
              go_wp2_with fail
              go_roundw
              case rel => exact ⟨k + 1, s2, ad2, c2, n2, by omega, by go_num, rfl, HN2, hs2, HIZ⟩
              case measure => simp [intOf]; omega
            · have e0 : (kd == 0) = false := by simpa using hk0
              have e1 : (kd == 1) = false := by simpa using hk1
              have e2 : (kd == 2) = false := by simpa using hk2
              clear hk0 hk1 hk2
              have HS0 := Lib.hid (net_Look W2 w.heap.size r s kk HNF.out.net)
              obtain ⟨bb, hbb⟩ : ∃ bb, bb = pkIs s kk := ⟨_, rfl⟩
              have HBB := Lib.hid hbb
              obtain ⟨q, hq⟩ : ∃ q, q = pkAt s kk := ⟨_, rfl⟩
              have HQ := Lib.hid hq
              rw [← hbb, ← hq] at HS0
              clear hbb hq
              go_wp2_with (first
                | (refine wpList_load_mid rfl 58 (.tmp 32) rfl b (o + k * 5) rfl nc _ hrg hu rfl (by rw [HSZ.out]; exact info_act) ?_)
                | (refine wpList_store_mid rfl 58 (.tmp 6) (.tmp 33) rfl wr.heap.size 0 nc.toArray rfl rfl (by simpa [HSZ.out] using TH1) (by simpa [HSZ.out] using info_act) (all_oneCell_toArray HONE.out) ?_
                   rw [show (wr.alloc (.cells #[.int .i64 0, .int .i64 0, .int .i64 0, .int .i64 0, .string ⟨#[]⟩] 58)).setCells wr.heap.size 0 nc.toArray.toList = W1 from HW1.out.symm])
                | (refine wpList_store_mid rfl 59 (.tmp 7) (.tmp 34) rfl W1.heap.size 0 (vcells zv).toArray rfl rfl THX info_pk (all_oneCell_toArray (vcells_one zv)) ?_
                   rw [show ((W1.alloc (.cells #[.int .i64 0, .int .i64 0, .string ⟨#[]⟩] 59)).alloc (.cells #[.int .i64 0, .int .i64 0, .string ⟨#[]⟩] 56)).setCells W1.heap.size 0 (vcells zv).toArray.toList = Wa from HWa.out.symm])
                | (refine wpList_store_mid rfl 56 (.tmp 9) (.tmp 35) rfl (W1.heap.size + 1) 0 (vcells zv).toArray rfl rfl THY info_rpk (all_oneCell_toArray (vcells_one zv)) ?_
                   rw [show Wa.setCells (W1.heap.size + 1) 0 (vcells zv).toArray.toList = W2 from HW2.out.symm])
                | fail)
              refine HS0.out.mono ?_
              rintro e w4 ⟨r4, rfl, N4, T4, hr4⟩
              have hNF4 := HNF.out.turn N4 T4 hr4
              have THQ := hNF4.at.there 0 3 (by simp [vcells])
              obtain ⟨w5, hw5⟩ : ∃ w5, w5 = w4.setCells W1.heap.size 0 (vcells q) := ⟨_, rfl⟩
              have hNF5 := hNF4.store (vs := vcells q) (by simp [vcells]) (fun k' cs' hk' => by
                simp only [List.mem_cons, List.not_mem_nil, or_false, Prod.mk.injEq] at hk'
                have := HZ1.out
                rcases hk' with ⟨rfl, _⟩ | ⟨rfl, _⟩ <;> omega)
              rw [← hw5] at hNF5
              have HNF5 := Lib.hid hNF5
              have HW5 := Lib.hid hw5
              have h15 := (HNF5.out.blks wr.heap.size (ncells (kd, kk, p)) (by simp)).1.cell (j := 1) rfl
              have HR5 := Lib.hid (rlook_any w5 (some ad) cS sn s kk HSN.out HNF5.out.nr.sees hs40)
              rw [← HBB.out, ← HQ.out] at HR5
              clear HNF N4 T4 hr4 HS0 RP h0 h1 TH1 HW1 HSZ HONE THX THY HWa HW2 hrg hNF4 hNF5 hw5
              go_wp2_with (first
                | (refine wpList_store_mid rfl 59 (.tmp 7) (.tmp 43) rfl W1.heap.size 0 (vcells q).toArray rfl rfl THQ info_pk (all_oneCell_toArray (vcells_one q)) ?_
                   rw [show w4.setCells W1.heap.size 0 (vcells q).toArray.toList = w5 from HW5.out.symm])
                | fail)
              refine HR5.out.mono ?_
              rintro e w6 ⟨rfl, hb6⟩
              have hNF6 := (HNF5.out.later hb6).swap
              have THY6 := hNF6.at.there 0 3 (by simp [vcells])
              obtain ⟨wE, hwE⟩ : ∃ wE, wE = w6.setCells (W1.heap.size + 1) 0 (vcells q) := ⟨_, rfl⟩
              have hNF7 := hNF6.store (vs := vcells q) (by simp [vcells]) (fun k' cs' hk' => by
                simp only [List.mem_cons, List.not_mem_nil, or_false, Prod.mk.injEq] at hk'
                have := HZ1.out
                rcases hk' with ⟨rfl, _⟩ | ⟨rfl, _⟩ <;> omega)
              rw [← hwE] at hNF7
              have HNFE := Lib.hid hNF7.swap
              have HWE := Lib.hid hwE
              have HN2 := Lib.hid HSN.out
              have hs2 := hs40
              clear HNF5 HR5 h15 hNF6 hNF7 hwE THQ HW5 hb6
              go_wp2_with (first
                | (refine wpList_store_mid rfl 56 (.tmp 9) (.tmp 50) rfl (W1.heap.size + 1) 0 (vcells q).toArray rfl rfl THY6 info_rpk (all_oneCell_toArray (vcells_one q)) ?_
                   rw [show w6.setCells (W1.heap.size + 1) 0 (vcells q).toArray.toList = wE from HWE.out.symm])
                | fail)

              have HX := Lib.hid (HNFE.out.at)
              have HY := Lib.hid (HNFE.out.swap.at)
              have HT := Lib.hid (fun wx => net_to q wx)
              have HLN := Lib.hid (fun wx (hl : Below wE.heap.size wE wx) => net_len2 wx w.heap.size r4 s (HNFE.out.later hl).net)
              rw [HN2.out] at HLN
              have dn : ((((sn : Nat) : Int)) != (((sn : Nat) : Int))) = false := by simp
              have db : (bb != bb) = false := by simp
              clear HSN HZ1 HBB THY6 HWE HQ
              refine wp_region_steady [] 170 (by kernel_rfl) (by kernel_rfl) (by kernel_rfl) (by rfl) ?_
              refine wpG_run (by rfl) (by rfl) (.agg (vcells q).toArray) (fun w1 hl => exec_load 59 (.tmp 7) rfl W1.heap.size 0 rfl (vcells q) _ ((HX.out.later hl.1).range 0 _ (by simp [vcells])) huq rfl info_pk) ?_
              simp only [Act.put, List.setIfInBounds_toArray, List.set_cons_zero, List.set_cons_succ]
              refine wpG_run (by rfl) (by rfl) (.agg (vcells q).toArray) (fun w1 hl => exec_load 56 (.tmp 9) rfl (W1.heap.size + 1) 0 rfl (vcells q) _ ((HY.out.later hl.1).range 0 _ (by simp [vcells])) hup rfl info_rpk) ?_
              simp only [Act.put, List.setIfInBounds_toArray, List.set_cons_zero, List.set_cons_succ]
              refine wpG_call (by rfl) (by rfl) 26 #[.agg (vcells q).toArray] (.agg (vcells q).toArray) (by intro _; simp [go_sem]) (by kernel_rfl) (fun w1 hl => HT.out w1) ?_
              simp only [Act.put, List.setIfInBounds_toArray, List.set_cons_zero, List.set_cons_succ]
              refine wpG_run (by rfl) (by rfl) (.bool false) (fun w1 hl => (exec_neq 59 _ (.tmp 96) (.tmp 98) rfl (vcells q).toArray (vcells q).toArray rfl rfl guard_pk _ (eq_pk 9998 q q w1)).trans (by simp)) ?_
              simp only [Act.put, List.setIfInBounds_toArray, List.set_cons_zero, List.set_cons_succ]
              iterate 7 (refine wpG_quiet (by rfl) (by rfl) (by rfl) (fun K hK => ?_); go_big_quiet_op; refine hK _ ?_; clear hK K)
              refine wpG_call (by rfl) (by rfl) 34 #[.pointer (some ⟨w.heap.size, 0, none⟩)] (.int .i64 sn) (by intro _; simp [go_sem]) (by kernel_rfl) (fun w1 hl => HLN.out w1 hl.1) ?_
              simp only [Act.put, List.setIfInBounds_toArray, List.set_cons_zero, List.set_cons_succ]
              iterate 4 (refine wpG_quiet (by rfl) (by rfl) (by rfl) (fun K hK => ?_); go_big_quiet_op; refine hK _ ?_; clear hK K)
              refine wpG_nil fun wz hlz _ => ?_
              have HIZ := Lib.hid ((HNFE.out.later hlz).nr)
              clear HX HY HT HLN hlz HNFE
              go_wp2_with fail
              go_roundw
              case rel => exact ⟨k + 1, s, ad, cS, sn, by omega, by go_num, rfl, HN2, hs2, HIZ⟩
              case measure => simp [intOf]; omega
      · obtain rfl : k = n := by omega
        have d1 : decide ((k : Int) < (k : Int)) = false := by simp
        clear hs hk hlt hok hn100 hnc
        go_wp2_with fail
        go_loopw [11] (fun j wr => ∃ kj : Nat, kj ≤ sn ∧ j = .int .i64 kj ∧ Hid (NR w wr w.heap.size s s (some ad) cS)) (fun j _ => sn - (intOf j).toNat)
        case atStart => exact ⟨0, Nat.zero_le _, rfl, HI⟩
        case round =>
          clear HI
          obtain ⟨kj, hkj, rfl, HI⟩ := hrel
          by_cases hlj : kj < sn
          · have d2 : decide ((kj : Int) < (sn : Int)) = true := by simp; omega
            have hks : kj < s.length := by rw [HSN.out]; exact hlj
            obtain ⟨r, N, hap, hr0⟩ := HI.out.net
            have HLK := Lib.hid (net_Look wr w.heap.size r s kj N)
            rw [(pkAt_nat hks).1, (pkAt_nat hks).2] at HLK
            obtain ⟨q, hq⟩ : ∃ q, q = s[kj] := ⟨_, rfl⟩
            have HQ := Lib.hid hq
            rw [← hq] at HLK
            have HAP := Lib.hid (And.intro N (And.intro hap hr0))
            clear hq N hap hr0
            go_wp2_with fail
            refine HLK.out.mono ?_
            rintro e w4 ⟨r4, rfl, N4, T4, hr4⟩
            have hI4 := (HI.out.turn HAP.out.1 HAP.out.2.1 HAP.out.2.2 N4 T4 hr4).1
            obtain ⟨w5, hw5⟩ : ∃ w5, w5 = (w4.alloc (.cells #[.int .i64 0, .int .i64 0, .string ⟨#[]⟩] 59)).setCells w4.heap.size 0 (vcells q) := ⟨_, rfl⟩
            obtain ⟨F5, B5, z5⟩ := pk_put w4 w5 q _ rfl hw5
            have TH5 := pk_there w4 3 rfl
            have HW5 := Lib.hid hw5
            have hI5 := hI4.later B5
            have hSE := hI5.sees
            have HI5 := Lib.hid hI5
            obtain ⟨b', o', e', hb', hrg'⟩ := sees_pk hSE kj hks
            rw [← HQ.out] at hrg'
            cases e'
            have HG := Lib.hid (fun (w1 : World) (hl : Le w5 w1) => (show w1.rangeAt b' (o' + kj * 3) (vcells q) from fun j v hj => (hl.cell (p := ⟨b', o' + kj * 3 + j, none⟩) hb').trans (hrg' j v hj)))
            have HX := Lib.hid (fun (w1 : World) (hl : Le w5 w1) => (F5.later hl).range 0 (vcells q) (by simp [vcells]))
            have HT := Lib.hid (fun wx => net_to q wx)
            clear HI HLK HAP N4 T4 hr4 hI4 hw5 F5 B5 z5 hI5 hSE hrg' hb'
            go_wp2_with (first
              | (refine wpList_store_mid rfl 59 (.tmp 12) (.tmp 122) rfl w4.heap.size 0 (vcells q).toArray rfl rfl TH5 info_pk (all_oneCell_toArray (vcells_one q)) ?_
                 rw [show (w4.alloc (.cells #[.int .i64 0, .int .i64 0, .string ⟨#[]⟩] 59)).setCells w4.heap.size 0 (vcells q).toArray.toList = w5 from HW5.out.symm])
              | fail)
            refine wp_region_steady [] 170 (by kernel_rfl) (by kernel_rfl) (by kernel_rfl) (by rfl) ?_
            iterate 3 (refine wpG_quiet (by rfl) (by rfl) (by rfl) (fun K hK => ?_); go_big_quiet_op; refine hK _ ?_; clear hK K)
            refine wpG_run (by rfl) (by rfl) (.agg (vcells q).toArray) (fun w1 hl => exec_load 59 (.tmp 12) rfl w4.heap.size 0 rfl (vcells q) _ (HX.out w1 hl.1) huq rfl info_pk) ?_
            simp only [Act.put, List.setIfInBounds_toArray, List.set_cons_zero, List.set_cons_succ]
            iterate 3 (refine wpG_quiet (by rfl) (by rfl) (by rfl) (fun K hK => ?_); go_big_quiet_op; refine hK _ ?_; clear hK K)
            refine wpG_run (by rfl) (by rfl) (.agg (vcells q).toArray) (fun w1 hl => exec_load 56 (.tmp 130) rfl b' (o' + kj * 3) rfl (vcells q) _ (HG.out w1 hl.1) hup rfl info_rpk) ?_
            simp only [Act.put, List.setIfInBounds_toArray, List.set_cons_zero, List.set_cons_succ]
            refine wpG_call (by rfl) (by rfl) 26 #[.agg (vcells q).toArray] (.agg (vcells q).toArray) (by intro _; simp [go_sem]) (by kernel_rfl) (fun w1 hl => HT.out w1) ?_
            simp only [Act.put, List.setIfInBounds_toArray, List.set_cons_zero, List.set_cons_succ]
            refine wpG_run (by rfl) (by rfl) (.bool false) (fun w1 hl => (exec_neq 59 _ (.tmp 127) (.tmp 132) rfl (vcells q).toArray (vcells q).toArray rfl rfl guard_pk _ (eq_pk 9998 q q w1)).trans (by simp)) ?_
            simp only [Act.put, List.setIfInBounds_toArray, List.set_cons_zero, List.set_cons_succ]
            iterate 1 (refine wpG_quiet (by rfl) (by rfl) (by rfl) (fun K hK => ?_); go_big_quiet_op; refine hK _ ?_; clear hK K)
            refine wpG_nil fun wz hlz _ => ?_
            have HIZ := Lib.hid (HI5.out.later hlz)
            clear HG HX HT HI5 hlz TH5 HW5 HQ
            go_wp2_with fail
            go_roundw
            case rel => exact ⟨kj + 1, by omega, by go_num, HIZ⟩
            case measure => simp [intOf]; omega
          · obtain rfl : kj = sn := by omega
            have d2 : decide ((kj : Int) < (kj : Int)) = false := by simp
            have HBE := Lib.hid HI.out.below
            obtain ⟨zq, hzq⟩ : ∃ zq : V3, zq = zv := ⟨_, rfl⟩
            have HN1 := Lib.hid (fun wx => nil_Look wx 0)
            have HN2 := Lib.hid (fun wx => nil_Take wx 0)
            have HN3 := Lib.hid (fun wx => nil_Send wx 0 0 ⟨#[]⟩)
            have HN4 := Lib.hid (fun wx => nil_Twice wx 0)
            rw [← hzq] at HN1 HN2
            clear HI hzq HSN hkj hlj
            go_wp2_with fail
            refine (HN1.out _).mono ?_
            rintro e w6 ⟨rfl, hbw6⟩
            obtain ⟨w7, hw7⟩ : ∃ w7, w7 = (w6.alloc (.cells #[.int .i64 0, .int .i64 0, .string ⟨#[]⟩] 59)).setCells w6.heap.size 0 (vcells zq) := ⟨_, rfl⟩
            obtain ⟨_, Bw7, _⟩ := pk_put w6 w7 zq _ rfl hw7
            have THw7 := pk_there w6 3 rfl
            have HWw7 := Lib.hid hw7
            have HBw7 := Lib.hid ((HBE.out.trans (hbw6.mono HBE.out.size)).trans (Bw7.mono (Nat.le_trans HBE.out.size hbw6.size)))
            clear hw7 Bw7 hbw6 HBE
            have HBE := HBw7
            clear HBw7
            go_wp2_with (first
              | (refine wpList_store_mid rfl 59 (.tmp 15) (.tmp 138) rfl w6.heap.size 0 (vcells zq).toArray rfl rfl THw7 info_pk (all_oneCell_toArray (vcells_one zq)) ?_
                 rw [show (w6.alloc (.cells #[.int .i64 0, .int .i64 0, .string ⟨#[]⟩] 59)).setCells w6.heap.size 0 (vcells zq).toArray.toList = w7 from HWw7.out.symm])
              | fail)

            refine (HN2.out _).mono ?_
            rintro e w8 ⟨rfl, hbw8⟩
            obtain ⟨w9, hw9⟩ : ∃ w9, w9 = (w8.alloc (.cells #[.int .i64 0, .int .i64 0, .string ⟨#[]⟩] 59)).setCells w8.heap.size 0 (vcells zq) := ⟨_, rfl⟩
            obtain ⟨_, Bw9, _⟩ := pk_put w8 w9 zq _ rfl hw9
            have THw9 := pk_there w8 3 rfl
            have HWw9 := Lib.hid hw9
            have HBw9 := Lib.hid ((HBE.out.trans (hbw8.mono HBE.out.size)).trans (Bw9.mono (Nat.le_trans HBE.out.size hbw8.size)))
            clear hw9 Bw9 hbw8 HBE
            have HBE := HBw9
            clear HBw9
            go_wp2_with (first
              | (refine wpList_store_mid rfl 59 (.tmp 17) (.tmp 143) rfl w8.heap.size 0 (vcells zq).toArray rfl rfl THw9 info_pk (all_oneCell_toArray (vcells_one zq)) ?_
                 rw [show (w8.alloc (.cells #[.int .i64 0, .int .i64 0, .string ⟨#[]⟩] 59)).setCells w8.heap.size 0 (vcells zq).toArray.toList = w9 from HWw9.out.symm])
              | fail)
            refine (HN3.out _).mono ?_
            rintro e wa ⟨rfl, hba⟩
            have HBa := Lib.hid (HBE.out.trans (hba.mono HBE.out.size))
            clear hba HBE
            go_wp2_with fail
            refine (HN4.out _).mono ?_
            rintro e wb ⟨rfl, hbb⟩
            have HBb := Lib.hid (HBa.out.trans (hbb.mono HBa.out.size))
            clear hbb HBa
            go_wp2_with fail
            refine (nil_Len _).mono ?_
            rintro e wc ⟨rfl, hbc⟩
            have HBc := Lib.hid (HBb.out.trans (hbc.mono HBb.out.size))
            clear hbc HBb
            go_wp2_with fail
            refine (naw_any _).mono ?_
            rintro e wd ⟨rfl, hbd⟩
            have HBd := Lib.hid (HBc.out.trans (hbd.mono HBc.out.size))
            clear hbd HBc
            go_wp2_with fail
            go_ret
            exact ⟨rfl, HBd.out⟩
end Go.Proofs.Ytlagodbkkkdmkaa
