/- NetOnce: the law's walk. -/
import Derived.Test.YtlagodbkkkdmkaaNetO
import Derived.Test.YtlagodbkkkdmkaaRowC
namespace Go.Proofs.Ytlagodbkkkdmkaa
set_option linter.unusedVariables false
set_option linter.unusedSimpArgs false
open Go Go.RowKit Go.MuLone

theorem info_act : (Try.prog.info? 58).map (·.size) = some 5 := by kernel_rfl
theorem act_there (w : World) : (w.alloc (.cells #[.int .i64 0, .int .i64 0, .int .i64 0, .int .i64 0, .string ⟨#[]⟩] 58)).there w.heap.size 0 5 := (Blk.new w (ncells (0, 0, zv)) 58).there 0 5 (by rw [ncells_len]; exact Nat.le_refl 5)
set_option maxHeartbeats 1600000 in
theorem act_put (w W : World) (n : Nd) (nc : List Value) (hnc : nc = ncells n) (hW : W = (w.alloc (.cells #[.int .i64 0, .int .i64 0, .int .i64 0, .int .i64 0, .string ⟨#[]⟩] 58)).setCells w.heap.size 0 nc) : Blk W w.heap.size nc ∧ Below w.heap.size w W ∧ W.heap.size = w.heap.size + 1 := by
  subst hnc hW
  have BN := Blk.new w (ncells (0, 0, zv)) 58
  have FIN := BN.sets (ncells n) 0 (by rw [ncells_len, ncells_len]; exact Nat.le_refl 5)
  have e1 : (ncells (0, 0, zv)).take 0 ++ ncells n ++ (ncells (0, 0, zv)).drop (0 + (ncells n).length) = ncells n := by simp [ncells]
  rw [e1] at FIN
  exact ⟨FIN, below_sets (Nat.le_refl w.heap.size) (ncells n) 0 ((Below.refl w.heap.size w).alloc (Nat.le_refl _) (.cells (ncells (0, 0, zv)).toArray 58)), by rw [size_sets]; simp⟩
theorem act_one (n : Nd) : ∀ v ∈ ncells n, v.oneCell' = true := fun v hv => ncs_one [n] v (by simpa [ncs] using hv)
/-- A slice of one struct, built. -/
theorem wpList_lit1 {P : Program} {ops : Array Oper} {rest : List Oper} {o : Oper} {a : Act} {w : World} {Q : Exit → Act → World → Prop} (hgd : o.guard = none) (t e : TypeId) (x : Operand)
    (ho : o.op = .buildSlice t 1 #[(0, x)]) (v : Value) (cs : Array Value) (hx : a.eval x = v) (hr : (Instr.buildSlice t 1 #[(0, v)]).run P w = .ok (.slice (some ⟨w.heap.size, 0, none⟩) 1 1) (w.alloc (.cells cs e)))
    (h : wpList P ops Q rest (a.put o.dst (.slice (some ⟨w.heap.size, 0, none⟩) 1 1)) (w.alloc (.cells cs e))) : wpList P ops Q (o :: rest) a w :=
  wpList_plain hgd fun _ hK => by
    unfold Oper.wp execOp
    simp only [ho, List.map_toArray, List.map_cons, List.map_nil, hx, Sem.run_bind, hr, Result.andThen_ok, Sem.run_pure]
    exact hK _ _ h
theorem run_pk1 (v : V3) (w : World) : (Instr.buildSlice 72 1 #[(0, .agg (vcells v).toArray)]).run Try.prog w = .ok (.slice (some ⟨w.heap.size, 0, none⟩) 1 1) (w.alloc (.cells (vcells v).toArray 59)) := by kernel_rfl
theorem info_npkd : (Try.prog.info? 59).map (fun i => (i.zero, i.size, i.bytes)) = some (some (.agg #[.int .i64 0, .int .i64 0, .string ⟨#[]⟩]), 3, 32) := by kernel_rfl
theorem run_pk0 (w : World) : (Instr.buildSlice 72 0 #[]).run Try.prog w = .ok (.slice (some ⟨w.heap.size, 0, none⟩) 0 0) (w.alloc (.cells #[] 59)) := by kernel_rfl

set_option maxRecDepth 100000 in
set_option maxHeartbeats 3200000 in
theorem walk_once (A : Option Addr) (n c : Nat) (l : List Nd) (w : World) (hn : l.length = n) (hs : Sees w w.heap.size A (ncs l)) (hnc : n ≤ c) (hok : ∀ z ∈ l, okNd z) :
    Calls Try.prog 6 #[.slice A n c] w fun e w' => e = .returned (.bool true) ∧ Below w.heap.size w w' := by
  have HL := Lib.hid (fun wx B (hx : Sees wx B A (ncs l)) => along_any A n c l wx B hn hx)
  obtain ⟨lb, hlb⟩ : ∃ lb, lb = alng l := ⟨_, rfl⟩
  rw [← hlb] at HL
  have HN := Lib.hid hn
  have hu := Try.underlying58
  have hup := Try.underlying56
  have huq := Try.underlying59
  have hn100 : lb = false → n ≤ 100 := fun e => by
    rw [hlb] at e
    unfold alng at e
    simp only [Bool.or_eq_false_iff, decide_eq_false_iff_not, hn] at e
    omega
  clear hn hlb
  cases lb with
  | true =>
    clear hn100
    go_enter Try.func6, Try.ntmps6
    go_wp2_with fail
    refine (HL.out _ _ hs).mono ?_
    rintro e w1 ⟨rfl, rfl⟩
    go_wp2_with fail
    refine (naw_any _).mono ?_
    rintro e w1 ⟨rfl, hb⟩
    go_wp2_with fail
    go_ret
    exact ⟨rfl, hb⟩
  | false =>
    replace hn100 := hn100 rfl
    go_enter Try.func6, Try.ntmps6
    go_wp2_with fail
    refine (HL.out _ _ hs).mono ?_
    rintro e w1 ⟨rfl, rfl⟩
    clear HL
    go_wp2_with fail
    refine (net_new _).mono ?_
    rintro e w1 ⟨rfl, N1, hb1⟩
    go_wp2_with fail
    have HI : Hid (NI w (w1.alloc (.cells #[] 59)) w.heap.size [] [] (some ⟨w1.heap.size, 0, none⟩) 0) := Lib.hid (by
      have hb2 := (Below.refl w1.heap.size w1).alloc (Nat.le_refl _) (.cells #[] 59)
      have hg := N1.cell0
      have hlt : w.heap.size < w1.heap.size := by obtain ⟨_, _, B, _⟩ := N1; exact B.lt
      exact ⟨⟨none, N1.later hb2, .inr (by simp [Value.ownBlock]), by simp⟩, row_lit w1 (w.heap.size + 1) _ 3 0 #[] (by omega) (by simp [maxLen]) rfl, Nat.le_refl _, hb1.trans (hb2.mono hb1.size)⟩)
    go_loopw [6, 5, 4] (fun i m v wr => ∃ (k : Nat) (s nl : List V3) (AS : Option Addr) (cS sn : Nat), k ≤ n ∧ i = .int .i64 k ∧ m = .int .i64 sn ∧ v = .slice AS sn cS ∧ Hid (sn = s.length) ∧ Hid (s.Perm nl ∧ nl.length ≤ 40) ∧ Hid (NI w wr w.heap.size s nl AS cS)) (fun i _ _ _ => n - (intOf i).toNat)
    case atStart => exact ⟨0, [], [], _, 0, 0, Nat.zero_le _, rfl, rfl, rfl, Lib.hid rfl, Lib.hid ⟨List.Perm.refl _, by simp⟩, HI⟩
    case round =>
      clear N1 hb1 HI
      obtain ⟨k, s, nl, AS, cS, sn, hk, rfl, rfl, rfl, HSN, HPM, HI⟩ := hrel
      by_cases hlt : k < n
      · have d1 : decide ((k : Int) < (n : Int)) = true := by simp; omega
        have hkl : k < l.length := by rw [HN.out]; exact hlt
        have hbr := HI.out.below
        obtain ⟨b, o, rfl, hb, hcc, hc2, hrg⟩ := sees_node ((hs.below hbr).more hbr.size) k hkl
        clear hcc hc2
        obtain ⟨W1, hW1⟩ : ∃ W1, W1 = (wr.alloc (.cells #[.int .i64 0, .int .i64 0, .int .i64 0, .int .i64 0, .string ⟨#[]⟩] 58)).setCells wr.heap.size 0 (ncells l[k]) := ⟨_, rfl⟩
        obtain ⟨F1, B1, z1⟩ := act_put wr W1 l[k] _ rfl hW1
        have TH1 := act_there wr
        have HW1 := Lib.hid hW1
        have HI1 := Lib.hid (HI.out.later B1)
        obtain ⟨r, NA, hr, hr0⟩ := HI.out.net
        have hgw : w.heap.size < wr.heap.size := by obtain ⟨_, _, B, _⟩ := NA; exact B.lt
        have NA1 := Lib.hid (NA.later B1)
        have HRI := Lib.hid (And.intro hr hr0)
        have HRL : Hid (some wr.heap.size ≠ r) := Lib.hid (fun e => by
          have := (NA.row _ e.symm).2
          omega)
        have HF1 := Lib.hid F1
        clear NA hr hr0
        have h0 := F1.cell (j := 0) rfl
        have h1 := F1.cell (j := 1) rfl
        have RP := Lib.hid (F1.range 2 (vcells l[k].2.2) (by simp [ncells, vcells]))
        obtain ⟨nc, hnc2⟩ : ∃ nc, nc = ncells l[k] := ⟨_, rfl⟩
        have HSZ := Lib.hid (show nc.length = 5 by rw [hnc2]; rfl)
        have HONE := Lib.hid (hnc2 ▸ act_one l[k])
        rw [← hnc2] at hrg HW1
        obtain ⟨⟨kd, kk, p⟩, hx⟩ : ∃ x, x = l[k] := ⟨_, rfl⟩
        rw [← hx] at h0 h1 RP HF1
        have hsz := Lib.hid z1
        clear hnc2 hW1 F1 hbr HI B1 hx z1
        by_cases hk0 : kd = 0
        · subst hk0
          have HSL := Lib.hid (show sn = nl.length by rw [HSN.out]; exact HPM.out.1.length_eq)
          obtain ⟨vc, hvc⟩ : ∃ vc, vc = vcells p := ⟨_, rfl⟩
          rw [← hvc] at RP
          have HVC := Lib.hid hvc
          have hp3 := Lib.hid (show vc.length = 3 by rw [hvc]; rfl)
          have HT := Lib.hid (fun wx => net_to p wx)
          rw [← hvc] at HT
          have HS := Lib.hid (fun wx r (h : NetAt wx w.heap.size 0 r nl) => net_Send wx w.heap.size r nl p h)
          rw [← hvc] at HS
          clear hvc
          go_wp2_with (first
              | (refine wpList_load_mid rfl 58 (.tmp 25) rfl b (o + k * 5) rfl nc _ hrg hu rfl (by rw [HSZ.out]; exact info_act) ?_)
              | (refine wpList_store_mid rfl 58 (.tmp 7) (.tmp 26) rfl wr.heap.size 0 nc.toArray rfl rfl (by simpa [HSZ.out] using TH1) (by simpa [HSZ.out] using info_act) (all_oneCell_toArray HONE.out) ?_
                 rw [show (wr.alloc (.cells #[.int .i64 0, .int .i64 0, .int .i64 0, .int .i64 0, .string ⟨#[]⟩] 58)).setCells wr.heap.size 0 nc.toArray.toList = W1 from HW1.out.symm])
              | (refine wpList_load_mid rfl 56 (.tmp 32) rfl wr.heap.size 2 rfl vc _ RP.out hup rfl (by rw [hp3.out]; exact info_rpk) ?_)
              | fail)
          refine (HT.out _).mono ?_
          rintro e w2 ⟨rfl, hb2⟩
          have HI2 := Lib.hid (HI1.out.later hb2)
          have NA2 := NA1.out.later hb2
          have HF2 := HF1.out.later hb2
          clear HI1 NA1 HF1 hb2 RP TH1 HW1 hrg HONE HSZ h0 h1
          by_cases h40 : nl.length < 40
          · have HS' := Lib.hid (HS.out w2 r NA2)
            rw [if_pos h40, decide_eq_true h40] at HS'
            go_wp2_with fail
            refine HS'.out.mono ?_
            rintro e w3 ⟨r3, rfl, N3, T3, hr3⟩
            have HI3 := Lib.hid (HI2.out.turn NA2 HRI.out.1 HRI.out.2 N3 T3 hr3)
            have HF3 := turn_blk HF2 (Nat.ne_of_gt hgw) HRL.out T3 hr3
            have RP3 := Lib.hid (HF3.1.range 2 vc (by rw [HVC.out]; simp [ncells, vcells]))
            clear HS HS' NA2 HF2 T3 hr3 N3
            go_wp2_with (first
              | (refine wpList_load_mid rfl 56 (.tmp 37) rfl wr.heap.size 2 rfl vc _ RP3.out hup rfl (by rw [hp3.out]; exact info_rpk) ?_)
              | fail)
            refine (HT.out _).mono ?_
            rintro e w4 ⟨rfl, hb4⟩
            have hrun4 := run_pk1 p w4
            rw [← HVC.out] at hrun4
            have hb5 := (Below.refl w4.heap.size w4).alloc (Nat.le_refl _) (.cells vc.toArray 59)
            have BX5 := Blk.new w4 vc 59
            obtain ⟨W5, hW5⟩ : ∃ W5, W5 = w4.alloc (.cells vc.toArray 59) := ⟨_, rfl⟩
            rw [← hW5] at hrun4 hb5 BX5
            have hb35 := hb4.trans (hb5.mono hb4.size)
            have hrow := row_later HI3.out.1.row hb35
            have hsee : Sees W5 W5.heap.size (some ⟨w4.heap.size, 0, none⟩) vc := fun _ => ⟨w4.heap.size, 0, rfl, BX5.lt, fun j hj => by rw [Nat.zero_add]; exact BX5.cell (List.getElem?_eq_getElem hj)⟩
            have HSEE := Lib.hid hsee
            have HROW := Lib.hid hrow
            rw [← HSN.out] at HROW
            have HONE2 := Lib.hid (show ∀ u ∈ vc, u.oneCell' = true by rw [HVC.out]; exact vcells_one p)
            have hsn40 : sn ≤ 40 := by rw [HSL.out]; omega
            have hg5 : w.heap.size + 1 ≤ W5.heap.size := by
              have h2 := hb35.size
              have h3 : w.heap.size < w3.heap.size := by obtain ⟨_, _, B, _⟩ := HI3.out.2.1; exact B.lt
              omega
            have HW5 := Lib.hid hW5
            obtain ⟨i0, hi0, hz0, hz1, hz2⟩ := info_parts info_npkd
            have HI0 := Lib.hid (And.intro hi0 (And.intro hz0 (And.intro hz1 hz2)))
            have HB5 := Lib.hid hb35
            clear hi0 hz0 hz1 hz2 hW5 hb5 BX5 hrow hsee hb4 hb35
            go_wp2_with (first
              | (refine wpList_lit1 rfl 72 59 (.tmp 39) rfl (.agg vc.toArray) vc.toArray rfl (hrun4.trans (by rw [HW5.out])) ?_
                 rw [← HW5.out])
              | (refine wpList_appk _ rfl (.tmp 36) (.tmp 40) 72 rfl (w.heap.size + 1) 59 i0 _ 3 32 Try.underlying72 HI0.out.1 HI0.out.2.1 HI0.out.2.2.1 HI0.out.2.2.2 rfl (by omega) (.slice AS sn cS) sn (fcells s) rfl HROW.out W5.heap.size (some ⟨w4.heap.size, 0, none⟩) 1 vc 1 rfl (by rw [hp3.out]) HSEE.out HONE2.out (by unfold maxLen; omega) (by omega) hg5 ?_
                 intro A6 c6 w6 hr6 hb6 hg6 hat6)
              | fail)
            have HI6 : Hid (NI w w6 w.heap.size (s ++ [p]) (nl ++ [p]) A6 c6) := Lib.hid (by
              have h5 := (HI3.out.1.later HB5.out)
              have e1 : (s ++ [p]).length = sn + 1 := by rw [List.length_append, HSN.out]; rfl
              have hb0 := h5.below
              have hat7 : (Value.slice A6 (s ++ [p]).length c6).ownBlock = (Value.slice AS s.length cS).ownBlock ∨ ∀ k, (Value.slice A6 (s ++ [p]).length c6).ownBlock = some k → W5.heap.size ≤ k := by
                rw [e1, ← HSN.out]
                rcases hat6 with e | e
                · exact .inl e
                · exact .inr fun k hk => by rw [e] at hk; cases hk; exact Nat.le_refl _
              refine h5.grow (by rw [← HSN.out]; exact hg6) ?_ hat7 (hb0.trans (hb6.mono (by omega)))
              rw [e1, fcells_app, show fcells [p] = vc by rw [HVC.out]; simp [fcells]]
              exact hr6)
            have HPM2 : Hid ((s ++ [p]).Perm (nl ++ [p]) ∧ (nl ++ [p]).length ≤ 40) := Lib.hid ⟨HPM.out.1.append_right [p], by rw [List.length_append]; exact h40⟩
            have HSN2 : Hid (sn + 1 = (s ++ [p]).length) := Lib.hid (by rw [List.length_append, HSN.out]; rfl)
            obtain ⟨r6, N6, hr6', hr06⟩ := HI6.out.net
            refine (net_len _ _ r6 _ N6).mono ?_
            rintro e w7 ⟨rfl, N7, T7⟩
            have HI7 := Lib.hid (HI6.out.turn N6 hr6' hr06 N7 T7 (.inl rfl)).1
            have hnl2 : (nl ++ [p]).length = sn + 1 := by rw [HSN2.out]; exact HPM2.out.1.length_eq.symm
            rw [hnl2]
            clear HI2 HI3 HI6 N6 hr6' hr06 N7 T7 HRI HRL h40 hr6 hb6 hg6 hat6 HSEE HROW HB5 hrun4 HW5 HONE2 hg5 RP3 HF3 HT hnl2
            have d3 : (((sn + 1 : Nat) : Int) != ((sn : Int) + 1)) = false := by simp
            have d4 : (((sn + 1 : Nat) : Int) != ((sn + 1 : Nat) : Int)) = false := by simp
            go_wp2_with fail
            go_roundw
            case rel => exact ⟨k + 1, s ++ [p], nl ++ [p], A6, c6, sn + 1, by omega, by go_num, by go_num, rfl, HSN2, HPM2, HI7⟩
            case measure => simp [intOf]; omega
          · have HS' := Lib.hid (HS.out w2 r NA2)
            rw [if_neg h40, decide_eq_false h40] at HS'
            go_wp2_with fail
            refine HS'.out.mono ?_
            rintro e w3 ⟨r3, rfl, N3, T3, hr3⟩
            have HI3 := Lib.hid (HI2.out.turn NA2 HRI.out.1 HRI.out.2 N3 T3 hr3)
            clear HS HS' NA2 HF2 T3 hr3 N3
            go_wp2_with fail
            refine (net_len _ _ r3 nl HI3.out.2.1).mono ?_
            rintro e w4 ⟨rfl, N4, T4⟩
            have HI6 := Lib.hid (HI3.out.1.turn HI3.out.2.1 HI3.out.2.2.1 HI3.out.2.2.2 N4 T4 (.inl rfl)).1
            rw [← HSL.out]
            clear HI2 HI3 N4 T4 HRI HRL h40
            have d3 : ((sn : Int) != (sn : Int)) = false := by simp
            go_wp2_with fail
            go_roundw
            case rel => exact ⟨k + 1, s, nl, AS, cS, sn, by omega, by go_num, rfl, rfl, HSN, HPM, HI6⟩
            case measure => simp [intOf]; omega
        · by_cases hk1 : kd = 1
          · subst hk1
            have HSL := Lib.hid (show sn = nl.length by rw [HSN.out]; exact HPM.out.1.length_eq)
            by_cases hin : kk < 0 ∨ (nl.length : Int) ≤ kk
            · have HT := Lib.hid (take_no W1 w.heap.size r nl kk NA1.out hin)
              obtain ⟨q, hq⟩ : ∃ q : V3, q = zv := ⟨_, rfl⟩
              rw [← hq] at HT
              clear hq hin hk0
              have e0 : ((1 : Int) == 0) = false := rfl
              go_wp2_with (first
              | (refine wpList_load_mid rfl 58 (.tmp 25) rfl b (o + k * 5) rfl nc _ hrg hu rfl (by rw [HSZ.out]; exact info_act) ?_)
              | (refine wpList_store_mid rfl 58 (.tmp 7) (.tmp 26) rfl wr.heap.size 0 nc.toArray rfl rfl (by simpa [HSZ.out] using TH1) (by simpa [HSZ.out] using info_act) (all_oneCell_toArray HONE.out) ?_
                 rw [show (wr.alloc (.cells #[.int .i64 0, .int .i64 0, .int .i64 0, .int .i64 0, .string ⟨#[]⟩] 58)).setCells wr.heap.size 0 nc.toArray.toList = W1 from HW1.out.symm])
              | fail)
              refine HT.out.mono ?_
              rintro e w2 ⟨r2, rfl, N2, T2, hr2⟩
              have HI2 := (HI1.out.turn NA1.out HRI.out.1 HRI.out.2 N2 T2 hr2)
              obtain ⟨W3, hW3⟩ : ∃ W3, W3 = (w2.alloc (.cells #[.int .i64 0, .int .i64 0, .string ⟨#[]⟩] 59)).setCells w2.heap.size 0 (vcells q) := ⟨_, rfl⟩
              obtain ⟨F3, B3, z3⟩ := pk_put w2 W3 q _ rfl hW3
              have TH2 := pk_there w2 3 rfl
              have HW3 := Lib.hid hW3
              have HI3 := Lib.hid (HI2.1.later B3)
              have HN3 := Lib.hid (N2.later B3)
              have HR3 := Lib.hid HI2.2.2
              clear HI1 NA1 HF1 RP TH1 HW1 hrg HONE HSZ h0 h1 HT HRI HRL hW3 F3 B3 z3 HI2 N2 T2 hr2
              go_wp2_with (first
              | (refine wpList_store_mid rfl 59 (.tmp 8) (.tmp 51) rfl w2.heap.size 0 (vcells q).toArray rfl rfl TH2 info_pk (all_oneCell_toArray (vcells_one q)) ?_
                 rw [show (w2.alloc (.cells #[.int .i64 0, .int .i64 0, .string ⟨#[]⟩] 59)).setCells w2.heap.size 0 (vcells q).toArray.toList = W3 from HW3.out.symm])
              | fail)
              refine (net_len _ _ r2 nl HN3.out).mono ?_
              rintro e w4 ⟨rfl, N4, T4⟩
              have HI6 := Lib.hid (HI3.out.turn HN3.out HR3.out.1 HR3.out.2 N4 T4 (.inl rfl)).1
              rw [← HSL.out]
              clear HI3 HN3 HR3 N4 T4 TH2 HW3
              have d3 : ((sn : Int) != (sn : Int)) = false := by simp
              go_wp2_with fail
              go_roundw
              case rel => exact ⟨k + 1, s, nl, AS, cS, sn, by omega, by go_num, rfl, rfl, HSN, HPM, HI6⟩
              case measure => simp [intOf]; omega
            · obtain ⟨i, rfl⟩ : ∃ i : Nat, kk = (i : Int) := ⟨kk.toNat, by omega⟩
              have hi : i < nl.length := by omega
              have HT := Lib.hid (take_yes W1 w.heap.size r nl i NA1.out hi HPM.out.2)
              have HQI : Hid (nl[i] = nl[i]) := Lib.hid rfl
              obtain ⟨q, hq⟩ : ∃ q : V3, q = nl[i] := ⟨_, rfl⟩
              have HQ := Lib.hid hq
              rw [← hq] at HT
              have hs1 : 1 ≤ sn := by rw [HSL.out]; omega
              have hs40 : sn ≤ 40 := by rw [HSL.out]; exact HPM.out.2
              clear hq hin hk0 HQI
              have e0 : ((1 : Int) == 0) = false := rfl
              go_wp2_with (first
                | (refine wpList_load_mid rfl 58 (.tmp 25) rfl b (o + k * 5) rfl nc _ hrg hu rfl (by rw [HSZ.out]; exact info_act) ?_)
                | (refine wpList_store_mid rfl 58 (.tmp 7) (.tmp 26) rfl wr.heap.size 0 nc.toArray rfl rfl (by simpa [HSZ.out] using TH1) (by simpa [HSZ.out] using info_act) (all_oneCell_toArray HONE.out) ?_
                   rw [show (wr.alloc (.cells #[.int .i64 0, .int .i64 0, .int .i64 0, .int .i64 0, .string ⟨#[]⟩] 58)).setCells wr.heap.size 0 nc.toArray.toList = W1 from HW1.out.symm])
                | fail)
              refine HT.out.mono ?_
              rintro e w2 ⟨r2, rfl, N2, T2, hr2⟩
              have HI2 := (HI1.out.turn NA1.out HRI.out.1 HRI.out.2 N2 T2 hr2)
              obtain ⟨W3, hW3⟩ : ∃ W3, W3 = (w2.alloc (.cells #[.int .i64 0, .int .i64 0, .string ⟨#[]⟩] 59)).setCells w2.heap.size 0 (vcells q) := ⟨_, rfl⟩
              obtain ⟨F3, B3, z3⟩ := pk_put w2 W3 q _ rfl hW3
              have TH2 := pk_there w2 3 rfl
              have HW3 := Lib.hid hW3
              have HI3 := Lib.hid (HI2.1.later B3)
              have HF3 := Lib.hid F3
              have HNL : Hid ((nl.take i ++ nl.drop (i + 1)).length + 1 = sn) := Lib.hid (by rw [HSL.out, List.length_append, List.length_take, List.length_drop]; omega)
              clear HI1 NA1 HF1 RP TH1 HW1 hrg HONE HSZ h0 h1 HT HRI HRL hW3 F3 B3 z3 HI2 N2 T2 hr2
              go_wp2_with (first
                | (refine wpList_store_mid rfl 59 (.tmp 8) (.tmp 51) rfl w2.heap.size 0 (vcells q).toArray rfl rfl TH2 info_pk (all_oneCell_toArray (vcells_one q)) ?_
                   rw [show (w2.alloc (.cells #[.int .i64 0, .int .i64 0, .string ⟨#[]⟩] 59)).setCells w2.heap.size 0 (vcells q).toArray.toList = W3 from HW3.out.symm])
                | fail)
              go_loopw [11, 10] (fun j a wy => ∃ (kj : Nat) (av : Int), kj ≤ sn ∧ j = .int .i64 kj ∧ a = .int .i64 av ∧ Hid (Found s q kj av) ∧ Hid (Below W3.heap.size W3 wy)) (fun j _ _ => sn - (intOf j).toNat)
              case atStart => exact ⟨0, -1, Nat.zero_le _, rfl, rfl, Lib.hid (found_zero s q), Lib.hid (Below.refl _ _)⟩
              case round =>
                obtain ⟨kj, av, hkj, rfl, rfl, HFD, HBY⟩ := hrel
                by_cases hlj : kj < sn
                · have d2 : decide ((kj : Int) < (sn : Int)) = true := by simp; omega
                  have hks : kj < s.length := by rw [← HSN.out]; exact hlj
                  obtain ⟨b', o', rfl, hb', hrg'⟩ := sees_pk (row_sees (row_later HI3.out.row HBY.out)) kj hks
                  have HG := Lib.hid (fun (w1 : World) (hl : Le wr w1) => (show w1.rangeAt b' (o' + kj * 3) (vcells s[kj]) from fun j v hj => (hl.cell (p := ⟨b', o' + kj * 3 + j, none⟩) hb').trans (hrg' j v hj)))
                  have HX := Lib.hid (fun (w1 : World) (hl : Le wr w1) => ((HF3.out.later HBY.out).later hl).range 0 (vcells q) (by simp [vcells]))
                  obtain ⟨y, hy⟩ : ∃ y, y = s[kj] := ⟨_, rfl⟩
                  have HY := Lib.hid hy
                  rw [← hy] at HG
                  clear hrg' hy hb'
                  have hb0 : ((b' : Int) = b') := rfl
                  go_wp2_with fail
                  refine wp_region_steady [] 93 (by kernel_rfl) (by kernel_rfl) (by kernel_rfl) (by rfl) ?_
                  iterate 3 (refine wpG_quiet (by rfl) (by rfl) (by rfl) (fun K hK => ?_); go_big_quiet_op; refine hK _ ?_; clear hK K)
                  refine wpG_run (by rfl) (by rfl) (.agg (vcells y).toArray) (fun w1 hl => exec_load 59 (.tmp 65) rfl b' (o' + kj * 3) rfl (vcells y) _ (HG.out w1 hl.1) huq rfl info_pk) ?_
                  simp only [Act.put, List.setIfInBounds_toArray, List.set_cons_zero, List.set_cons_succ]
                  refine wpG_run (by rfl) (by rfl) (.agg (vcells q).toArray) (fun w1 hl => exec_load 59 (.tmp 8) rfl w2.heap.size 0 rfl (vcells q) _ (HX.out w1 hl.1) huq rfl info_pk) ?_
                  simp only [Act.put, List.setIfInBounds_toArray, List.set_cons_zero, List.set_cons_succ]
                  refine wpG_run (by rfl) (by rfl) (.bool (decide (y = q))) (fun w1 hl => exec_eql 59 _ (.tmp 66) (.tmp 67) rfl (vcells y).toArray (vcells q).toArray rfl rfl guard_pk _ (eq_pk 9998 y q w1)) ?_
                  simp only [Act.put, List.setIfInBounds_toArray, List.set_cons_zero, List.set_cons_succ]
                  refine wpG_nil fun w1 hl _ => ?_
                  have HB1 := Lib.hid (HBY.out.trans (hl.mono HBY.out.size))
                  clear HG HX hl
                  by_cases hyq : y = q
                  · have HFD2 := Lib.hid (found_yes (s := s) (p := q) (k := kj) (a := av) (by rw [List.getElem?_eq_getElem hks, ← HY.out, hyq]))
                    rw [decide_eq_true hyq]
                    clear hyq
                    go_wp2_with fail
                    go_roundw
                    case rel => exact ⟨kj + 1, kj, by omega, by go_num, rfl, HFD2, HB1⟩
                    case measure => simp [intOf]; omega
                  · have HFD2 := Lib.hid (found_no (a := av) HFD.out (by rw [List.getElem?_eq_getElem hks, ← HY.out]; exact fun e => hyq (Option.some.inj e)))
                    rw [decide_eq_false hyq]
                    clear hyq
                    go_wp2_with fail
                    go_roundw
                    case rel => exact ⟨kj + 1, av, by omega, by go_num, rfl, HFD2, HB1⟩
                    case measure => simp [intOf]; omega
                · obtain rfl : kj = sn := by omega
                  have d2 : decide ((kj : Int) < (kj : Int)) = false := by simp
                  obtain ⟨at_, hav, hat, hsat⟩ := found_end HPM.out.1 (show q ∈ nl by rw [HQ.out]; exact List.getElem_mem hi) (by rw [← HSN.out]; exact HFD.out)
                  have hat2 : at_ < kj := by rw [HSN.out]; exact hat
                  subst hav
                  have d5 : decide ((at_ : Int) < 0) = false := by simp
                  have HI4 := Lib.hid (HI3.out.later HBY.out)
                  obtain ⟨b', o', rfl, hb', hrg'⟩ := sees_pk (row_sees HI4.out.row) at_ hat
                  have hAS := Lib.hid (row_sees HI4.out.row)
                  obtain ⟨i0, hi0, hz0, hz1, hz2⟩ := info_parts info_npkd
                  have hkc : kj ≤ cS := by
                    rcases HI4.out.row.2 with ⟨e, _⟩ | ⟨_, cap, _, e, _, _, h1, _⟩
                    · cases e
                    · simp only [Value.slice.injEq] at e
                      obtain ⟨_, _, rfl⟩ := e
                      rw [HSN.out]; exact h1
                  obtain ⟨ad1, hr1, hsee1⟩ := rowcut_h 72 59 i0 3 Try.underlying72 hi0 hz1 ⟨b', o', none⟩ kj at_ cS at_ .i64 (by omega) rfl hkc
                  obtain ⟨ad2, hr2, hsee2⟩ := rowcut_l 72 59 i0 3 Try.underlying72 hi0 hz1 ⟨b', o', none⟩ kj (kj - (at_ + 1)) (at_ + 1) cS (at_ + 1) .i64 (by omega) (by omega) hkc
                  have HI0 := Lib.hid (And.intro hi0 (And.intro hz0 (And.intro hz1 hz2)))
                  have hfl : (fcells s).length = kj * 3 := by rw [fcells_len, HSN.out]; omega
                  have HFL := Lib.hid hfl
                  have HS1 := Lib.hid (fun (w1 : World) (hl : Below wr.heap.size wr w1) => (show Sees w1 w1.heap.size (some ad1) (fcells (s.take at_)) by rw [← fcells_take]; exact hsee1 w1 _ _ ((hAS.out.below hl).more hl.size)))
                  have e6 : (fcells s).drop ((at_ + 1) * 3) = fcells (s.drop (at_ + 1)) := by
                    have h1 : fcells s = fcells (s.take (at_ + 1)) ++ fcells (s.drop (at_ + 1)) := by rw [← fcells_app, List.take_append_drop]
                    conv => lhs; rw [h1]
                    rw [List.drop_append_of_le_length (by rw [fcells_len, List.length_take]; omega), List.drop_eq_nil_of_le (by rw [fcells_len, List.length_take]; omega), List.nil_append]
                  have HS2 := Lib.hid (fun (w1 : World) (hl : Below wr.heap.size wr w1) => (show Sees w1 w1.heap.size (some ad2) (fcells (s.drop (at_ + 1))) by rw [← e6]; exact hsee2 w1 _ _ HFL.out ((hAS.out.below hl).more hl.size)))
                  have HL1 : Hid ((fcells (s.take at_)).length = at_ * 3) := Lib.hid (by rw [fcells_len, List.length_take]; omega)
                  have HL2 : Hid ((fcells (s.drop (at_ + 1))).length = (kj - (at_ + 1)) * 3) := Lib.hid (by rw [fcells_len, List.length_drop, HSN.out]; omega)
                  have HR1 := Lib.hid hr1
                  have HR2 := Lib.hid hr2
                  obtain ⟨l1, hl1⟩ : ∃ l1, l1 = s.take at_ := ⟨_, rfl⟩
                  obtain ⟨l2, hl2⟩ : ∃ l2, l2 = s.drop (at_ + 1) := ⟨_, rfl⟩
                  have HLL := Lib.hid (And.intro hl1 hl2)
                  rw [← hl1] at HS1 HL1
                  rw [← hl2] at HS2 HL2
                  have HSAT : Hid (∃ h : at_ < s.length, s[at_] = q) := Lib.hid ⟨hat, hsat⟩
                  obtain ⟨mm, hmm⟩ : ∃ mm, mm = kj - (at_ + 1) := ⟨_, rfl⟩
                  have HMM : Hid (at_ + mm + 1 = kj) := Lib.hid (by omega)
                  have hm40 : at_ + mm ≤ 40 := by omega
                  rw [← hmm] at HR2 HL2
                  clear hi0 hz0 hz1 hz2 hfl hrg' hsee1 hsee2 hr1 hr2 e6 hl1 hl2 hat hsat hmm HFD hb' hAS HFL
                  go_wp2_with fail
                  refine wp_region_tail [(72, relRow0 wr.heap.size 59 3), (76, relRowN wr.heap.size 59 3 at_ (fcells l1))] 93 9 (by kernel_rfl) (by kernel_rfl) (by kernel_rfl) (by rfl) ?_
                  refine wpG_open (relRow0 wr.heap.size 59 3) (by rfl) (by rfl) (fun w1 hl => row0_gives 72 59 3 wr.heap.size rfl run_pk0 w1 hl.1.size) ?_
                  rintro _ ⟨_, _, _, ⟨_, bn, rfl, _⟩⟩
                  simp only [Act.put, List.setIfInBounds_toArray, List.set_cons_zero, List.set_cons_succ]
                  iterate 2 (refine wpG_quiet (by rfl) (by rfl) (by rfl) (fun K hK => ?_); go_big_quiet_op; refine hK _ ?_; clear hK K)
                  refine wpG_run (by rfl) (by rfl) (.slice (some ad1) at_ cS) (fun w1 hl => exec_slice_h 72 (.tmp 73) (.tmp 74) rfl 59 Try.underlying72 _ _ _ rfl rfl HR1.out) ?_
                  simp only [Act.put, List.setIfInBounds_toArray, List.set_cons_zero, List.set_cons_succ]
                  refine wpG_open (relRowN wr.heap.size 59 3 at_ (fcells l1)) (by rfl) (by rfl) (fun w1 hl => ?_) ?_
                  · have h10 := hl.2 72 _ (by simp [Op.operands, Call.operands]) rfl (by intro h; cases h)
                    exact app_gives (.tmp 72) (.tmp 75) wr.heap.size 72 59 i0 _ 3 32 rfl Try.underlying72 HI0.out.1 HI0.out.2.1 HI0.out.2.2.1 HI0.out.2.2.2 rfl (by omega) w1 h10 ad1 at_ cS (fcells l1) rfl HL1.out (HS1.out w1 hl.1) (fcells_one l1) (by unfold maxLen; omega) (by omega)
                  rintro u ⟨_, _, _, hrow⟩
                  obtain ⟨A1, c1, rfl⟩ := row_form hrow
                  clear hrow
                  simp only [Act.put, List.setIfInBounds_toArray, List.set_cons_zero, List.set_cons_succ]
                  iterate 3 (refine wpG_quiet (by rfl) (by rfl) (by rfl) (fun K hK => ?_); go_big_quiet_op; refine hK _ ?_; clear hK K)
                  refine wpG_run (by rfl) (by rfl) (.slice (some ad2) mm (cS - (at_ + 1))) (fun w1 hl => exec_slice_l 72 (.tmp 77) (.tmp 79) rfl 59 Try.underlying72 _ _ _ rfl rfl HR2.out) ?_
                  simp only [Act.put, List.setIfInBounds_toArray, List.set_cons_zero, List.set_cons_succ]
                  refine wpG_nil fun w1 hl hS => ?_
                  obtain ⟨⟨_, _⟩, hrow⟩ := hS
                  have HROW := Lib.hid hrow
                  have hsz1 : wr.heap.size ≤ w1.heap.size := hl.size
                  have HSE := Lib.hid (HS2.out w1 hl)
                  have HLE := Lib.hid hl
                  refine wpList_appk _ rfl (.tmp 76) (.tmp 80) 72 rfl wr.heap.size 59 i0 _ 3 32 Try.underlying72 HI0.out.1 HI0.out.2.1 HI0.out.2.2.1 HI0.out.2.2.2 rfl (by omega) (.slice A1 at_ c1) at_ (fcells l1) (by rfl) HROW.out w1.heap.size (some ad2) (cS - (at_ + 1)) (fcells l2) mm (by rfl) HL2.out HSE.out (fcells_one _) (by unfold maxLen; omega) (by omega) hsz1 ?_
                  intro A3 c3 w3 hr3 hb3 hg3 hat3
                  have HI6 : Hid (NI w w3 w.heap.size (l1 ++ l2) (nl.take i ++ nl.drop (i + 1)) A3 c3) := Lib.hid (by
                    have e1 : (l1 ++ l2).length = at_ + mm := by
                      have h1 := HL1.out
                      have h2 := HL2.out
                      rw [fcells_len] at h1 h2
                      rw [List.length_append]
                      omega
                    refine HI4.out.fresh (Below.trans HLE.out hb3) ?_
                    rw [e1, fcells_app]
                    exact hr3)
                  have HPM2 : Hid ((l1 ++ l2).Perm (nl.take i ++ nl.drop (i + 1)) ∧ (nl.take i ++ nl.drop (i + 1)).length ≤ 40) := Lib.hid (by
                    obtain ⟨h1, h2⟩ := HSAT.out
                    refine ⟨?_, by have := HNL.out; omega⟩
                    rw [HLL.out.1, HLL.out.2]
                    exact perm_take HPM.out.1 h1 hi (h2.trans HQ.out))
                  have HSN2 : Hid (at_ + mm = (l1 ++ l2).length) := Lib.hid (by
                    have h1 := HL1.out
                    have h2 := HL2.out
                    rw [fcells_len] at h1 h2
                    rw [List.length_append]
                    omega)
                  have hnl2 : (nl.take i ++ nl.drop (i + 1)).length = at_ + mm := by rw [HSN2.out]; exact HPM2.out.1.length_eq.symm
                  have HKJ : Hid ((kj : Int) - 1 = ((at_ + mm : Nat) : Int)) := Lib.hid (by have := HMM.out; omega)
                  have d6 : (((at_ + mm : Nat) : Int) != (kj : Int) - 1) = false := by rw [HKJ.out]; simp
                  have d7 : ((kj : Int) - 1 != ((at_ + mm : Nat) : Int)) = false := by rw [HKJ.out]; simp
                  obtain ⟨sn2, hsn2⟩ : ∃ sn2, sn2 = at_ + mm := ⟨_, rfl⟩
                  rw [← hsn2] at hnl2 d6 d7 HSN2 HKJ ⊢
                  have HSM := Lib.hid hsn2
                  obtain ⟨nl2, hnl3⟩ : ∃ nl2, nl2 = nl.take i ++ nl.drop (i + 1) := ⟨_, rfl⟩
                  rw [← hnl3] at HI6 HPM2 hnl2
                  obtain ⟨s2, hs2⟩ : ∃ s2, s2 = l1 ++ l2 := ⟨_, rfl⟩
                  rw [← hs2] at HI6 HPM2 HSN2
                  clear hr3 hb3 hg3 hat3 HROW HSE HLE hl hrow HI4 HLL HSAT HQ HS1 HS2 HR1 HR2 HL1 HL2 HMM hm40 hsz1 hsn2 hnl3 hs2 HNL HI3 hkc
                  go_wp2_with fail
                  obtain ⟨r6, N6, hr6', hr06⟩ := HI6.out.net
                  refine (net_len _ _ r6 _ N6).mono ?_
                  rintro e w7 ⟨rfl, N7, T7⟩
                  have HI7 := Lib.hid (HI6.out.turn N6 hr6' hr06 N7 T7 (.inl rfl)).1
                  rw [hnl2]
                  clear HI6 N6 hr6' hr06 N7 T7 hnl2
                  go_wp2_with fail
                  go_roundw
                  case rel => exact ⟨k + 1, s2, nl2, A3, c3, sn2, by omega, by go_num, by rw [HKJ.out], rfl, HSN2, HPM2, HI7⟩
                  case measure => simp [intOf]; omega
          · have e0 : (kd == 0) = false := by simpa using hk0
            have e1 : (kd == 1) = false := by simpa using hk1
            clear hk0 hk1
            go_wp2_with (first
              | (refine wpList_load_mid rfl 58 (.tmp 25) rfl b (o + k * 5) rfl nc _ hrg hu rfl (by rw [HSZ.out]; exact info_act) ?_)
              | (refine wpList_store_mid rfl 58 (.tmp 7) (.tmp 26) rfl wr.heap.size 0 nc.toArray rfl rfl (by simpa [HSZ.out] using TH1) (by simpa [HSZ.out] using info_act) (all_oneCell_toArray HONE.out) ?_
                 rw [show (wr.alloc (.cells #[.int .i64 0, .int .i64 0, .int .i64 0, .int .i64 0, .string ⟨#[]⟩] 58)).setCells wr.heap.size 0 nc.toArray.toList = W1 from HW1.out.symm])
              | fail)
            refine (net_len _ _ r nl NA1.out).mono ?_
            rintro e w2 ⟨rfl, N2, T2⟩
            have HI2 := HI1.out.turn NA1.out HRI.out.1 HRI.out.2 N2 T2 (.inl rfl)
            have HI3 := Lib.hid HI2.1
            have hnl : nl.length = sn := by rw [HSN.out]; exact HPM.out.1.length_eq.symm
            rw [hnl]
            clear HI1 HI2 NA1 HRI N2 T2 TH1 HW1 RP hrg HONE HSZ hnl
            have d3 : ((sn : Int) != (sn : Int)) = false := by simp
            go_wp2_with fail
            go_roundw
            case rel => exact ⟨k + 1, s, nl, AS, cS, sn, by omega, by go_num, rfl, rfl, HSN, HPM, HI3⟩
            case measure => simp [intOf]; omega
      · obtain rfl : k = n := by omega
        have d1 : decide ((k : Int) < (k : Int)) = false := by simp
        go_wp2_with fail
        refine (naw_any _).mono ?_
        rintro e w2 ⟨rfl, hb2⟩
        have hb3 := HI.out.below.trans (hb2.mono HI.out.below.size)
        go_wp2_with fail
        go_ret
        exact ⟨rfl, hb3⟩
end Go.Proofs.Ytlagodbkkkdmkaa
