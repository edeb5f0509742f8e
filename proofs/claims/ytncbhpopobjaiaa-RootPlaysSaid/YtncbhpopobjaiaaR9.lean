/- Roots: the document's Get. -/
import Derived.Test.YtncbhpopobjaiaaR8
import Derived.Test.YtncbhpopobjaiaaR4
import Derived.Test.YtncbhpopobjaiaaR5
import Derived.OrdersIn
import Derived.TacticsIn
import Derived.RangeFuncCalls
import Derived.OwnWalkIn
namespace Go.Proofs.Ytncbhpopobjaiaa
set_option linter.unusedVariables false
set_option linter.unusedSimpArgs false
open Go Go.RowKit SumM OctM

theorem rnum_1 (m : List UInt8) : rnumOut m 0 4294967295 = ((rp1 m).1, m.drop (rp1 m).2.1, (rp1 m).2.2) := by
  have := same_num m 0 0 4294967295
  rw [List.drop_zero] at this
  exact this
theorem rnum_2 (m : List UInt8) : rnumOut (m.drop (rp1 m).2.1) (rp1 m).2.2 4294967295 = ((rp2 m).1, m.drop (rp2 m).2.1, (rp2 m).2.2) := same_num m (rp1 m).2.1 (rp1 m).2.2 4294967295
theorem rnum_3 (M : Int) (m : List UInt8) : rnumOut (m.drop (rp2 m).2.1) (rp2 m).2.2 M = ((rp3 M m).1, m.drop (rp3 M m).2.1, (rp3 M m).2.2) := same_num m (rp2 m).2.1 (rp2 m).2.2 M
theorem info_rdr : (Try.prog.info? 72).map (·.size) = some 2 := by kernel_rfl
theorem rr_lit (w : World) (m : List UInt8) : Rr (w.alloc (.cells #[.string (str m), .int .i64 0] 72)) w.heap.size w.heap.size m 0 :=
  own_lit w w.heap.size 72 #[.string (str m), .int .i64 0] (Nat.le_refl _) (by simp [maxLen])
set_option maxRecDepth 100000 in
set_option maxHeartbeats 6400000 in
theorem rrtget_any (l : List UInt8) (w : World) (hl : l.length ≤ 1048576) : Calls Try.prog 8 #[.string (str l)] w fun e w' => e = .returned (.tuple #[.agg (rtc (rget l).1).toArray, .bool (rget l).2]) ∧ Below w.heap.size w w' := by
  have hu := Try.underlying23
  have HB1 : Hid (Blk (w.alloc (.cells #[.int .i64 0, .int .i64 0, .int .i64 0] 23)) w.heap.size [.int .i64 0, .int .i64 0, .int .i64 0]) := Lib.hid (Blk.new w [.int .i64 0, .int .i64 0, .int .i64 0] 23)
  have HL1 := Lib.hid ((Below.refl w.heap.size w).alloc (Nat.le_refl _) (.cells #[.int .i64 0, .int .i64 0, .int .i64 0] 23))
  obtain ⟨s, hs⟩ : ∃ s, s = str l := ⟨_, rfl⟩
  obtain ⟨n, hn⟩ : ∃ n, n = l.length := ⟨_, rfl⟩
  have hz : s.size = n := by rw [hs, str_size, hn]
  by_cases h64 : n = 64
  · have hl64 : l.length = 64 := by omega
    have i0 : (0 : Int) ≤ 4 := by decide
    have i1 : (4 : Int) ≤ 64 := by decide
    have e1 : s.extract 0 4 = str (l.take 4) := by
      have := str_mid l 0 4
      rw [hs]
      simpa using this
    have e2 : ((s.extract 0 4).toList == [114, 111, 111, 116]) = decide (l.take 4 = rname) := by
      rw [e1, str_list]
      show (l.take 4 == rname) = _
      by_cases h : l.take 4 = rname <;> simp [h]
    have e3 : ((s.extract 0 4).toList != [114, 111, 111, 116]) = !decide (l.take 4 = rname) := by rw [bne, e2]
    by_cases ht : l.take 4 = rname
    · rw [decide_eq_true ht] at e2 e3
      obtain ⟨m, hm⟩ : ∃ m, m = l.drop 4 := ⟨_, rfl⟩
      have hml : m.length ≤ 60 := by rw [hm, List.length_drop]; omega
      have HNO : Hid (¬ (Rok (rpars 1099511627775 m) ∧ rput (rpars 1099511627775 m) = l) → rget l = (rt0, false)) := Lib.hid (fun h => rget_no l 1099511627775 (by omega) (by rw [← hm]; exact h))
      have HER : Hid ((rp3 1099511627775 m).2.2 ≠ 0 → rget l = (rt0, false)) := Lib.hid (fun h => rget_err l 1099511627775 (by omega) (by rw [← hm]; exact h))
      have HYES : Hid (Rok (rpars 1099511627775 m) → rput (rpars 1099511627775 m) = l → rget l = (rpars 1099511627775 m, true)) := Lib.hid (fun h1 h2 => rget_yes l _ h1 h2)
      have HEX : Hid (s.extract 4 64 = str m) := Lib.hid (by
        have := str_cut l 4
        rw [str_size, hl64] at this
        rw [hs, hm]
        exact this)
      have HSTR : Hid (∀ q : List UInt8, ((str q).toList == s.toList) = decide (q = l)) := Lib.hid (fun q => by
        rw [hs, str_list, str_list]
        by_cases h : q = l
        · rw [h]; simp
        · rw [decide_eq_false h, beq_eq_false_iff_ne]
          exact h)
      rw [← hs]
      subst h64
      have HL64 := Lib.hid hl64
      have HML := Lib.hid hml
      have HR2 := Lib.hid (rr_lit (w.alloc (.cells #[.int .i64 0, .int .i64 0, .int .i64 0] 23)) m)
      have z2 : (w.alloc (.cells #[.int .i64 0, .int .i64 0, .int .i64 0] 23)).heap.size = w.heap.size + 1 := by simp
      rw [z2] at HR2
      have HB2 := Lib.hid (HB1.out.alloc (.cells #[.string (str m), .int .i64 0] 72))
      have HL2 := Lib.hid (HL1.out.alloc (by simp) (.cells #[.string (str m), .int .i64 0] 72))
      obtain ⟨sm, hsm⟩ : ∃ sm, sm = str m := ⟨_, rfl⟩
      have HSM := Lib.hid hsm
      rw [← hsm] at HR2 HB2 HL2 HEX
      clear hs hn ht hm hsm hl hl64 hml e1 z2
      generalize hx4 : s.extract 0 4 = s4 at e2 e3
      have HX4 := Lib.hid hx4
      go_enter Try.func8, Try.ntmps8
      go_wp2_with fail
      rw [HEX.out]
      obtain ⟨W2, hW2⟩ : ∃ W2, W2 = (w.alloc (.cells #[.int .i64 0, .int .i64 0, .int .i64 0] 23)).alloc (.cells #[.string sm, .int .i64 0] 72) := ⟨_, rfl⟩
      rw [← hW2] at HR2 HB2 HL2 ⊢
      clear hW2 HEX
      refine (rr_num (w.heap.size + 1) (w.heap.size + 1) m 0 4294967295 W2 HR2.out (by have := HML.out; omega)).mono ?_
      rintro e w3 ⟨rfl, hr3, hg3⟩
      rw [rnum_1] at hr3 ⊢
      dsimp only at hr3 ⊢
      have HB3 := Lib.hid (HB2.out.kept hg3 (by intro e; injection e with e; omega))
      have HL3 := Lib.hid (HL2.out.grown hg3 HL2.out.size (fun j hj => by injection hj with hj; omega))
      have HR3 := Lib.hid hr3
      have hz3 := hr3.block.2
      clear hr3 hg3 HB2 HL2 HR2
      generalize hx1 : ((rp1 m).1 : Int) = x1
      have BX := Blk.new w3 [.int .i64 0, .int .i64 0, .int .i64 0] 23
      have THX := BX.there 0 3 (by simp)
      have BX2 : Blk ((w3.alloc (.cells #[.int .i64 0, .int .i64 0, .int .i64 0] 23)).setCells w3.heap.size 0 [.int .i64 x1, .int .i64 0, .int .i64 0]) w3.heap.size [.int .i64 x1, .int .i64 0, .int .i64 0] := BX.sets [.int .i64 x1, .int .i64 0, .int .i64 0] 0 (by simp)
      have HB4 := Lib.hid (Blk.setsOther (b := w3.heap.size) (by have := HB3.out.lt; omega) [.int .i64 x1, .int .i64 0, .int .i64 0] 0 (HB3.out.alloc (.cells #[.int .i64 0, .int .i64 0, .int .i64 0] 23)))
      have HL4 := Lib.hid (below_sets HL3.out.size [.int .i64 x1, .int .i64 0, .int .i64 0] 0 (HL3.out.alloc HL3.out.size (.cells #[.int .i64 0, .int .i64 0, .int .i64 0] 23)))
      have HR4 : Hid (Rr ((w3.alloc (.cells #[.int .i64 0, .int .i64 0, .int .i64 0] 23)).setCells w3.heap.size 0 [.int .i64 x1, .int .i64 0, .int .i64 0]) (w.heap.size + 1) (w.heap.size + 1) (m.drop (rp1 m).2.1) (rp1 m).2.2) := Lib.hid (row_apartD (HR3.out.later ((Below.refl w3.heap.size w3).alloc (Nat.le_refl _) _)) (by intro e; injection e with e; have e : w.heap.size + 1 = w3.heap.size := e; omega) [.int .i64 x1, .int .i64 0, .int .i64 0] 0)
      obtain ⟨W4, hW4⟩ : ∃ W4, W4 = (w3.alloc (.cells #[.int .i64 0, .int .i64 0, .int .i64 0] 23)).setCells w3.heap.size 0 [.int .i64 x1, .int .i64 0, .int .i64 0] := ⟨_, rfl⟩
      rw [← hW4] at BX2 HB4 HL4 HR4
      have HBX4 := Lib.hid BX2
      have HW4 := Lib.hid hW4
      clear BX BX2 hW4 HB3 HL3 HR3
      go_wp2_with (first
        | (refine wpList_store_mid rfl 23 (.tmp 5) (.tmp 21) rfl w3.heap.size 0 #[.int .i64 x1, .int .i64 0, .int .i64 0] rfl rfl THX info_rtfrom (by simp [Value.oneCell']) ?_
           simp only [Act.put, List.setIfInBounds_toArray, List.set_cons_zero, List.set_cons_succ])
        | fail)
      have hW4' := HW4.out
      rw [← hW4']
      clear hW4' HW4 THX
      refine (rr_num (w.heap.size + 1) (w.heap.size + 1) (m.drop (rp1 m).2.1) (rp1 m).2.2 4294967295 W4 HR4.out (by rw [List.length_drop]; have := HML.out; omega)).mono ?_
      rintro e w5 ⟨rfl, hr5, hg5⟩
      rw [rnum_2] at hr5 ⊢
      dsimp only at hr5 ⊢
      have HB5 := Lib.hid (HB4.out.kept hg5 (by intro e; injection e with e; omega))
      have HX5 := HBX4.out.kept hg5 (by intro e; injection e with e; omega)
      have HL5 := Lib.hid (HL4.out.grown hg5 HL4.out.size (fun j hj => by injection hj with hj; omega))
      have HR5 := Lib.hid hr5
      clear hr5 hg5 HB4 HL4 HR4 HBX4
      generalize hx2 : ((rp2 m).1 : Int) = x2
      have k1 := HX5.cell (j := 1) rfl
      have f1 := HX5.frozen 1
      have HX6 : Hid (Blk (w5.setCell ⟨w3.heap.size, 1, none⟩ (.int .i64 x2)) w3.heap.size [.int .i64 x1, .int .i64 x2, .int .i64 0]) := Lib.hid (HX5.set 1 (.int .i64 x2))
      have HB6 := Lib.hid (HB5.out.setOther (b := w3.heap.size) 1 (.int .i64 x2) (by omega))
      have HL6 := Lib.hid (HL5.out.setCell (p := ⟨w3.heap.size, 1, none⟩) (by show w.heap.size ≤ w3.heap.size; omega) (.int .i64 x2))
      have HR6 : Hid (Rr (w5.setCell ⟨w3.heap.size, 1, none⟩ (.int .i64 x2)) (w.heap.size + 1) (w.heap.size + 1) (m.drop (rp2 m).2.1) (rp2 m).2.2) := Lib.hid (row_apartD HR5.out (by intro e; injection e with e; have e : w.heap.size + 1 = w3.heap.size := e; omega) [.int .i64 x2] 1)
      obtain ⟨W6, hW6⟩ : ∃ W6, W6 = w5.setCell ⟨w3.heap.size, 1, none⟩ (.int .i64 x2) := ⟨_, rfl⟩
      rw [← hW6] at HX6 HB6 HL6 HR6
      have HW6 := Lib.hid hW6
      clear HX5 hW6 HB5 HL5 HR5
      go_wp2_with fail
      have hW6' := HW6.out
      rw [← hW6']
      clear hW6' HW6 k1 f1
      refine (rr_num (w.heap.size + 1) (w.heap.size + 1) (m.drop (rp2 m).2.1) (rp2 m).2.2 1099511627775 W6 HR6.out (by rw [List.length_drop]; have := HML.out; omega)).mono ?_
      rintro e w7 ⟨rfl, hr7, hg7⟩
      rw [rnum_3] at hr7 ⊢
      dsimp only at hr7 ⊢
      have HB7 := Lib.hid (HB6.out.kept hg7 (by intro e; injection e with e; omega))
      have HX7 := HX6.out.kept hg7 (by intro e; injection e with e; omega)
      have HL7 := Lib.hid (HL6.out.grown hg7 HL6.out.size (fun j hj => by injection hj with hj; omega))
      have HR7 := Lib.hid hr7
      clear hr7 hg7 HB6 HL6 HR6 HX6
      generalize hx3 : ((rp3 1099511627775 m).1 : Int) = x3
      have hy : rpars 1099511627775 m = (x1, x2, x3) := by rw [rpars_eq, hx1, hx2, hx3]
      rw [hy] at HNO HYES
      clear hx1 hx2 hx3 hy
      have k2 := HX7.cell (j := 2) rfl
      have f2 := HX7.frozen 2
      have HX8 : Blk (w7.setCell ⟨w3.heap.size, 2, none⟩ (.int .i64 x3)) w3.heap.size [.int .i64 x1, .int .i64 x2, .int .i64 x3] := HX7.set 2 (.int .i64 x3)
      have HB8 := Lib.hid (HB7.out.setOther (b := w3.heap.size) 2 (.int .i64 x3) (by omega))
      have HL8 := Lib.hid (HL7.out.setCell (p := ⟨w3.heap.size, 2, none⟩) (by show w.heap.size ≤ w3.heap.size; omega) (.int .i64 x3))
      have HR8 : Rr (w7.setCell ⟨w3.heap.size, 2, none⟩ (.int .i64 x3)) (w.heap.size + 1) (w.heap.size + 1) (m.drop (rp3 1099511627775 m).2.1) (rp3 1099511627775 m).2.2 := row_apartD HR7.out (by intro e; injection e with e; have e : w.heap.size + 1 = w3.heap.size := e; omega) [.int .i64 x3] 2
      obtain ⟨_, ke, _, _⟩ := HR8.facts
      generalize (rp3 1099511627775 m).2.2 = er at HER ke
      obtain ⟨W8, hW8⟩ : ∃ W8, W8 = w7.setCell ⟨w3.heap.size, 2, none⟩ (.int .i64 x3) := ⟨_, rfl⟩
      rw [← hW8] at HX8 HB8 HL8 ke
      have RB := HX8.range 0 [.int .i64 x1, .int .i64 x2, .int .i64 x3] rfl
      have KE := Lib.hid ke
      have HX8 := Lib.hid HX8
      have HW8 := Lib.hid hW8
      clear HX7 hW8 HB7 HL7 HR7 HR8 ke
      have HPT : Hid (∀ wx, Calls Try.prog 13 #[.agg #[.int .i64 x1, .int .i64 x2, .int .i64 x3]] wx fun e w' => e = .returned (.string (str (rput (x1, x2, x3)))) ∧ Below wx.heap.size wx w') := Lib.hid (fun wx => rrtput_any (x1, x2, x3) wx)
      by_cases he : er = 0
      · have e0 : (er != 0) = false := by rw [he]; rfl
        obtain ⟨sp, hsp⟩ : ∃ sp, sp = str (rput (x1, x2, x3)) := ⟨_, rfl⟩
        rw [← hsp] at HPT
        have hst := HSTR.out (rput (x1, x2, x3))
        rw [← hsp] at hst
        have ke8 := KE.out
        rw [HW8.out] at ke8
        rw [HW8.out] at RB
        by_cases hql : rput (x1, x2, x3) = l
        · have hok : Rok (x1, x2, x3) := by
            by_cases h : Rok (x1, x2, x3)
            · exact h
            · exfalso
              have h2 := HL64.out
              rw [← hql] at h2
              unfold rput at h2
              rw [if_neg h] at h2
              cases h2
          have HGY := Lib.hid (HYES.out hok hql)
          rw [decide_eq_true hql] at hst
          have hst2 : (sp.toList != s.toList) = false := by rw [bne, hst]; rfl
          have hst3 : (!sp.toList == s.toList) = false := by rw [hst]; rfl
          clear hok hql hsp HER HNO HYES he
          go_wp2_with (first
            | (refine wpList_load_g (by rfl) 23 (.tmp 5) rfl w3.heap.size 0 rfl [.int .i64 x1, .int .i64 x2, .int .i64 x3] _ RB hu rfl info_rtfrom ?_
               simp only [Act.put, List.setIfInBounds_toArray, List.set_cons_zero, List.set_cons_succ])
            | fail)
          have hW8' := HW8.out
          rw [← hW8']
          clear hW8' HW8 k2 f2 RB ke8
          refine (HPT.out _).mono ?_
          rintro e w9 ⟨rfl, hb9⟩
          have HB9 := Lib.hid (HB8.out.later hb9)
          have HX9 := HX8.out.later hb9
          have HL9 := Lib.hid (HL8.out.trans (hb9.mono HL8.out.size))
          have RB9 := HX9.range 0 [.int .i64 x1, .int .i64 x2, .int .i64 x3] rfl
          have TH := HB9.out.there 0 3 (by simp)
          have HBZ : Hid (Blk (w9.setCells w.heap.size 0 [.int .i64 x1, .int .i64 x2, .int .i64 x3]) w.heap.size [.int .i64 x1, .int .i64 x2, .int .i64 x3]) := Lib.hid (HB9.out.sets [.int .i64 x1, .int .i64 x2, .int .i64 x3] 0 (by simp))
          have HLZ := Lib.hid (below_sets (Nat.le_refl w.heap.size) [.int .i64 x1, .int .i64 x2, .int .i64 x3] 0 HL9.out)
          clear hb9 HX9 HX8 HB8 HL8 HPT HB9 HL9
          go_wp2_with (first
            | (refine wpList_load_mid rfl 23 (.tmp 5) rfl w3.heap.size 0 rfl [.int .i64 x1, .int .i64 x2, .int .i64 x3] _ RB9 hu rfl info_rtfrom ?_
               simp only [Act.put, List.setIfInBounds_toArray, List.set_cons_zero, List.set_cons_succ])
            | (refine wpList_store_mid rfl 23 (.tmp 2) (.tmp 40) rfl w.heap.size 0 #[.int .i64 x1, .int .i64 x2, .int .i64 x3] rfl rfl TH info_rtfrom (by simp [Value.oneCell']) ?_
               simp only [Act.put, List.setIfInBounds_toArray, List.set_cons_zero, List.set_cons_succ])
            | fail)
          exact bodyPost_ret (v := .tuple #[.agg #[.int .i64 x1, .int .i64 x2, .int .i64 x3], .bool true]) (results_rows_tmp rfl _ _ w.heap.size [.int .i64 x1, .int .i64 x2, .int .i64 x3] _ (.bool true) rfl rfl HBZ.out hu rfl info_rtfrom) rfl ⟨by rw [HGY.out]; rfl, HLZ.out⟩
        · have HGN := Lib.hid (HNO.out (fun h => hql h.2))
          rw [decide_eq_false hql] at hst
          have hst2 : (sp.toList != s.toList) = true := by rw [bne, hst]; rfl
          have hst3 : (!sp.toList == s.toList) = true := by rw [hst]; rfl
          clear hql hsp HER HNO HYES he
          go_wp2_with (first
            | (refine wpList_load_g (by rfl) 23 (.tmp 5) rfl w3.heap.size 0 rfl [.int .i64 x1, .int .i64 x2, .int .i64 x3] _ RB hu rfl info_rtfrom ?_
               simp only [Act.put, List.setIfInBounds_toArray, List.set_cons_zero, List.set_cons_succ])
            | fail)
          have hW8' := HW8.out
          rw [← hW8']
          clear hW8' HW8 k2 f2 RB ke8
          refine (HPT.out _).mono ?_
          rintro e w9 ⟨rfl, hb9⟩
          have HB9 := Lib.hid (HB8.out.later hb9)
          have HL9 := Lib.hid (HL8.out.trans (hb9.mono HL8.out.size))
          clear hb9 HX8 HB8 HL8 HPT
          have TH := HB9.out.there 0 3 (by simp)
          have HBZ : Hid (Blk (w9.setCells w.heap.size 0 [.int .i64 0, .int .i64 0, .int .i64 0]) w.heap.size [.int .i64 0, .int .i64 0, .int .i64 0]) := Lib.hid (HB9.out.sets [.int .i64 0, .int .i64 0, .int .i64 0] 0 (by simp))
          have HLZ := Lib.hid (below_sets (Nat.le_refl w.heap.size) [.int .i64 0, .int .i64 0, .int .i64 0] 0 HL9.out)
          go_wp2_with (first
            | (refine wpList_store_mid rfl 23 (.tmp 2) (.tmp 39) rfl w.heap.size 0 #[.int .i64 0, .int .i64 0, .int .i64 0] rfl rfl TH info_rtfrom (by simp [Value.oneCell']) ?_
               simp only [Act.put, List.setIfInBounds_toArray, List.set_cons_zero, List.set_cons_succ])
            | fail)
          exact bodyPost_ret (v := .tuple #[.agg #[.int .i64 0, .int .i64 0, .int .i64 0], .bool false]) (results_rows_tmp rfl _ _ w.heap.size [.int .i64 0, .int .i64 0, .int .i64 0] _ (.bool false) rfl rfl HBZ.out hu rfl info_rtfrom) rfl ⟨by rw [HGN.out]; rfl, HLZ.out⟩
      · have e0 : (er != 0) = true := by rw [bne_iff_ne]; exact he
        have HGN := Lib.hid (HER.out he)
        have ke8 := KE.out
        rw [HW8.out] at ke8
        rw [HW8.out] at HB8 HL8
        clear he HNO HYES HER HPT RB
        obtain ⟨W8', hW8'⟩ : ∃ W8', W8' = w7.setCell ⟨w3.heap.size, 2, none⟩ (.int .i64 x3) := ⟨_, rfl⟩
        rw [← hW8'] at HB8 HL8
        have TH := HB8.out.there 0 3 (by simp)
        rw [hW8'] at TH
        have HBZ : Hid (Blk (W8'.setCells w.heap.size 0 [.int .i64 0, .int .i64 0, .int .i64 0]) w.heap.size [.int .i64 0, .int .i64 0, .int .i64 0]) := Lib.hid (HB8.out.sets [.int .i64 0, .int .i64 0, .int .i64 0] 0 (by simp))
        have HLZ := Lib.hid (below_sets (Nat.le_refl w.heap.size) [.int .i64 0, .int .i64 0, .int .i64 0] 0 HL8.out)
        rw [hW8'] at HBZ HLZ
        clear hW8' HB8 HL8 HX8 HW8 KE
        go_wp2_with (first
          | (refine wpList_store_mid rfl 23 (.tmp 2) (.tmp 39) rfl w.heap.size 0 #[.int .i64 0, .int .i64 0, .int .i64 0] rfl rfl TH info_rtfrom (by simp [Value.oneCell']) ?_
             simp only [Act.put, List.setIfInBounds_toArray, List.set_cons_zero, List.set_cons_succ])
          | fail)
        exact bodyPost_ret (v := .tuple #[.agg #[.int .i64 0, .int .i64 0, .int .i64 0], .bool false]) (results_rows_tmp rfl _ _ w.heap.size [.int .i64 0, .int .i64 0, .int .i64 0] _ (.bool false) rfl rfl HBZ.out hu rfl info_rtfrom) rfl ⟨by rw [HGN.out]; rfl, HLZ.out⟩
    · rw [decide_eq_false ht] at e2 e3
      have HGN := Lib.hid (rget_name l ht)
      rw [← hs]
      subst h64
      generalize hx4 : s.extract 0 4 = s4 at e2 e3
      clear hs hn ht hl hl64 e1
      obtain ⟨w1, hw1⟩ : ∃ w1, w1 = w.alloc (.cells #[.int .i64 0, .int .i64 0, .int .i64 0] 23) := ⟨_, rfl⟩
      have TH := HB1.out.there 0 3 (by simp)
      have HBZ : Hid (Blk ((w.alloc (.cells #[.int .i64 0, .int .i64 0, .int .i64 0] 23)).setCells w.heap.size 0 [.int .i64 0, .int .i64 0, .int .i64 0]) w.heap.size [.int .i64 0, .int .i64 0, .int .i64 0]) := Lib.hid (HB1.out.sets [.int .i64 0, .int .i64 0, .int .i64 0] 0 (by simp))
      have HLZ := Lib.hid (below_sets (Nat.le_refl w.heap.size) [.int .i64 0, .int .i64 0, .int .i64 0] 0 HL1.out)
      clear hw1 HB1 HL1
      go_enter Try.func8, Try.ntmps8
      go_wp2_with (first
        | (refine wpList_store_mid rfl 23 (.tmp 2) (.tmp 14) rfl w.heap.size 0 #[.int .i64 0, .int .i64 0, .int .i64 0] rfl rfl TH info_rtfrom (by simp [Value.oneCell']) ?_
           simp only [Act.put, List.setIfInBounds_toArray, List.set_cons_zero, List.set_cons_succ])
        | fail)
      exact bodyPost_ret (v := .tuple #[.agg #[.int .i64 0, .int .i64 0, .int .i64 0], .bool false]) (results_rows_tmp rfl _ _ w.heap.size [.int .i64 0, .int .i64 0, .int .i64 0] _ (.bool false) rfl rfl HBZ.out hu rfl info_rtfrom) rfl ⟨by rw [HGN.out]; rfl, HLZ.out⟩
  · have n64 : ((n : Int) != 64) = true := by rw [bne_iff_ne]; omega
    have HGN := Lib.hid (rget_len l (by omega))
    rw [← hs]
    clear hs hn hl h64
    have TH := HB1.out.there 0 3 (by simp)
    have HBZ : Hid (Blk ((w.alloc (.cells #[.int .i64 0, .int .i64 0, .int .i64 0] 23)).setCells w.heap.size 0 [.int .i64 0, .int .i64 0, .int .i64 0]) w.heap.size [.int .i64 0, .int .i64 0, .int .i64 0]) := Lib.hid (HB1.out.sets [.int .i64 0, .int .i64 0, .int .i64 0] 0 (by simp))
    have HLZ := Lib.hid (below_sets (Nat.le_refl w.heap.size) [.int .i64 0, .int .i64 0, .int .i64 0] 0 HL1.out)
    clear HB1 HL1
    go_enter Try.func8, Try.ntmps8
    go_wp2_with (first
      | (refine wpList_store_mid rfl 23 (.tmp 2) (.tmp 14) rfl w.heap.size 0 #[.int .i64 0, .int .i64 0, .int .i64 0] rfl rfl TH info_rtfrom (by simp [Value.oneCell']) ?_
         simp only [Act.put, List.setIfInBounds_toArray, List.set_cons_zero, List.set_cons_succ])
      | fail)
    exact bodyPost_ret (v := .tuple #[.agg #[.int .i64 0, .int .i64 0, .int .i64 0], .bool false]) (results_rows_tmp rfl _ _ w.heap.size [.int .i64 0, .int .i64 0, .int .i64 0] _ (.bool false) rfl rfl HBZ.out hu rfl info_rtfrom) rfl ⟨by rw [HGN.out]; rfl, HLZ.out⟩
end Go.Proofs.Ytncbhpopobjaiaa

/- Disks: what each call does to a disk: mathematics alone. -/
namespace Go.Proofs.Ytncbhpopobjaiaa
set_option linter.unusedVariables false
set_option linter.unusedSimpArgs false
open Go Go.RowKit

def b64 (l : List UInt8) : B64 := if h : l.length = 64 then ⟨l, h⟩ else z64
theorem b64_val {l : List UInt8} (h : l.length = 64) : (b64 l).1 = l := by unfold b64; rw [dif_pos h]
theorem b64_self (b : B64) : b64 b.1 = b := by unfold b64; rw [dif_pos b.2]
/-- A new disk. -/
def dnew (n : Nat) : Dk := ⟨List.replicate n (z64, false), [], -1, false⟩
def dhas (D : Dk) (a : Int) : Bool := decide (0 ≤ a ∧ a < (D.s.length : Int))
/-- The fuse burns. -/
def dstep (D : Dk) : Dk × Int := if D.fuse = 0 then ({ D with dead := true }, 15) else if 0 < D.fuse then ({ D with fuse := D.fuse - 1 }, 0) else (D, 0)
def dwrite (D : Dk) (a : Int) (b : List UInt8) : Dk × Int :=
  if D.dead then (D, 15) else if dhas D a = true ∧ b.length = 64 then dstep { D with w := D.w ++ [(a, b64 b)] } else (D, 1)
/-- A write that waited comes to its outcome. -/
def dsettle (s : List Sc) (x : Wr) (o : Int) : List Sc := if o = 1 then s.set x.1.toNat (x.2, false) else if o = 2 then s.set x.1.toNat ((s.getD x.1.toNat (z64, false)).1, true) else s
def dall (s : List Sc) (l : List Wr) : List Sc := l.foldl (fun s x => dsettle s x 1) s
def dsync (D : Dk) : Dk × Int :=
  if D.dead then (D, 15) else if (dstep D).2 = 0 then ({ (dstep D).1 with s := dall D.s D.w, w := [] }, 0) else dstep D
/-- What becomes of the writes from the k-th on. -/
def outc (keep : List Int) (k : Nat) : Int := match keep[k]? with
  | some x => if 0 < x then x % 3 else 0
  | none => 0
def dkeep (keep : List Int) : Nat → List Sc → List Wr → List Sc
  | _, s, [] => s
  | k, s, x :: l => dkeep keep (k + 1) (dsettle s x (outc keep k)) l
def dcrash (D : Dk) (keep : List Int) : Dk := ⟨dkeep keep 0 D.s D.w, [], -1, false⟩
/-- What lies at a place: what waits last, or what is there. -/
def dlook (D : Dk) (a : Int) : Sc := D.w.foldl (fun c x => if x.1 = a then (x.2, false) else c) (D.s.getD a.toNat (z64, false))
def dread (D : Dk) (a : Int) : List UInt8 × Int :=
  if D.dead then ([], 15) else if dhas D a = true then (if (dlook D a).2 then ([], 16) else ((dlook D a).1.1, 0)) else ([], 1)
/-- What waits is within the sectors. -/
def DIn (D : Dk) : Prop := ∀ x ∈ D.w, dhas D x.1 = true
theorem dsettle_len (s : List Sc) (x : Wr) (o : Int) : (dsettle s x o).length = s.length := by unfold dsettle; by_cases h1 : o = 1 <;> by_cases h2 : o = 2 <;> simp [h1, h2]
theorem dall_len : ∀ (l : List Wr) (s : List Sc), (dall s l).length = s.length
  | [], _ => rfl
  | x :: l, s => (dall_len l (dsettle s x 1)).trans (dsettle_len s x 1)
theorem dkeep_len (keep : List Int) : ∀ (l : List Wr) (k : Nat) (s : List Sc), (dkeep keep k s l).length = s.length
  | [], _, _ => rfl
  | x :: l, k, s => (dkeep_len keep l (k + 1) _).trans (dsettle_len s x _)
theorem dall_snoc (s : List Sc) (l : List Wr) (x : Wr) : dall s (l ++ [x]) = dsettle (dall s l) x 1 := by simp [dall]
theorem dkeep_snoc (keep : List Int) : ∀ (l : List Wr) (k : Nat) (s : List Sc) (x : Wr), dkeep keep k s (l ++ [x]) = dsettle (dkeep keep k s l) x (outc keep (k + l.length))
  | [], k, s, x => by simp [dkeep]
  | y :: l, k, s, x => by
    rw [List.cons_append, dkeep, dkeep_snoc keep l (k + 1), dkeep, List.length_cons, show k + 1 + l.length = k + (l.length + 1) by omega]
theorem dstep_s (D : Dk) : (dstep D).1.s = D.s ∧ (dstep D).1.w = D.w := by unfold dstep; by_cases h1 : D.fuse = 0 <;> by_cases h2 : 0 < D.fuse <;> simp [h1, h2]
theorem DIn.step {D : Dk} (h : DIn D) : DIn (dstep D).1 := by
  intro x hx
  rw [(dstep_s D).2] at hx
  have := h x hx
  unfold dhas at *
  rw [(dstep_s D).1]
  exact this
theorem DIn.write {D : Dk} (h : DIn D) (a : Int) (b : List UInt8) : DIn (dwrite D a b).1 := by
  unfold dwrite
  split
  · exact h
  · split
    · rename_i _ hb
      refine DIn.step (fun x hx => ?_)
      rcases List.mem_append.1 hx with h1 | h1
      · exact h x h1
      · simp only [List.mem_singleton] at h1
        subst h1
        exact hb.1
    · exact h
theorem DIn.none {D : Dk} (h : D.w = []) : DIn D := fun x hx => by rw [h] at hx; cases hx
theorem DIn.sync {D : Dk} (h : DIn D) : DIn (dsync D).1 := by
  unfold dsync
  split
  · exact h
  · split
    · exact DIn.none rfl
    · exact h.step
theorem DIn.crash (D : Dk) (keep : List Int) : DIn (dcrash D keep) := DIn.none rfl
end Go.Proofs.Ytncbhpopobjaiaa

/- Disks: whether the power is there, what is there, the fuse: what each returns. -/
namespace Go.Proofs.Ytncbhpopobjaiaa
set_option linter.unusedVariables false
set_option linter.unusedSimpArgs false
open Go Go.RowKit

theorem DkAt.cells {w : World} {L g b : Nat} {r : Option Nat} {D : Dk} (h : DkAt w L g b r D) : ∃ A c, w.cell? ⟨g, 0, none⟩ = some (.slice (some ⟨b, 0, none⟩) D.s.length D.s.length) ∧ w.cell? ⟨g, 1, none⟩ = some (.slice A D.w.length c) ∧
    w.cell? ⟨g, 2, none⟩ = some (.int .i64 D.fuse) ∧ w.cell? ⟨g, 3, none⟩ = some (.bool D.dead) ∧ w.ownsRow L 86 65 (.slice A D.w.length c) D.w.length (wcs D.w) ∧ r = (Value.slice A D.w.length c).ownBlock ∧ ∀ j, w.frozen? ⟨g, j, none⟩ = false := by
  obtain ⟨A, c, B, hr, e⟩ := h.at_
  exact ⟨A, c, B.cell rfl, B.cell rfl, B.cell rfl, B.cell rfl, hr, e, B.frozen⟩

set_option maxRecDepth 100000 in
set_option maxHeartbeats 1600000 in
theorem ready_any (L g b : Nat) (r : Option Nat) (D : Dk) (w : World) (h : DkAt w L g b r D) :
    Calls Try.prog 41 #[.pointer (some ⟨g, 0, none⟩)] w fun e w' => e = .returned (.int .i64 (if D.dead then 15 else 0)) ∧ w = w' := by
  obtain ⟨A, c, h0, h1, h2, h3, hrow, hre, hz⟩ := h.cells
  clear hrow hre hz
  cases hd : D.dead with
  | true =>
    rw [hd] at h3
    go_enter Try.func41, Try.ntmps41
    go_wp2_with fail
    go_ret
    exact ⟨rfl, rfl⟩
  | false =>
    rw [hd] at h3
    go_enter Try.func41, Try.ntmps41
    go_wp2_with fail
    go_ret
    exact ⟨rfl, rfl⟩
theorem ready_nil (w : World) : Calls Try.prog 41 #[.pointer none] w fun e w' => e = .returned (.int .i64 14) ∧ w = w' := by
  go_enter Try.func41, Try.ntmps41
  go_wp2_with fail
  go_ret
  exact ⟨rfl, rfl⟩
set_option maxRecDepth 100000 in
theorem has_any (L g b : Nat) (r : Option Nat) (D : Dk) (a : Int) (w : World) (h : DkAt w L g b r D) :
    Calls Try.prog 42 #[.pointer (some ⟨g, 0, none⟩), .int .i64 a] w fun e w' => e = .returned (.bool (dhas D a)) ∧ w = w' := by
  obtain ⟨A, c, h0, h1, h2, h3, hrow, hre, hz⟩ := h.cells
  clear hrow hre hz
  obtain ⟨n, hn⟩ : ∃ n, n = D.s.length := ⟨_, rfl⟩
  have HR : Hid (dhas D a = decide (0 ≤ a ∧ a < (n : Int))) := Lib.hid (by rw [hn]; rfl)
  rw [← hn] at h0
  clear hn
  by_cases a0 : 0 ≤ a
  · have d0 : decide (0 ≤ a) = true := decide_eq_true a0
    by_cases a1 : a < (n : Int)
    · have d1 : decide (a < (n : Int)) = true := decide_eq_true a1
      rw [decide_eq_true ⟨a0, a1⟩] at HR
      go_enter Try.func42, Try.ntmps42
      go_wp2_with fail
      go_ret
      exact ⟨by rw [HR.out]; rfl, rfl⟩
    · have d1 : decide (a < (n : Int)) = false := decide_eq_false a1
      rw [decide_eq_false (fun h => a1 h.2)] at HR
      go_enter Try.func42, Try.ntmps42
      go_wp2_with fail
      go_ret
      exact ⟨by rw [HR.out]; rfl, rfl⟩
  · have d0 : decide (0 ≤ a) = false := decide_eq_false a0
    rw [decide_eq_false (fun h => a0 h.1)] at HR
    go_enter Try.func42, Try.ntmps42
    go_wp2_with fail
    go_ret
    exact ⟨by rw [HR.out]; rfl, rfl⟩
set_option maxRecDepth 100000 in
set_option maxHeartbeats 1600000 in
theorem dkstep_any (L g b : Nat) (r : Option Nat) (D : Dk) (w : World) (h : DkAt w L g b r D) (hf : -9223372036854775808 ≤ D.fuse ∧ D.fuse ≤ 9223372036854775807) :
    Calls Try.prog 43 #[.pointer (some ⟨g, 0, none⟩)] w fun e w' => e = .returned (.int .i64 (dstep D).2) ∧ DkAt w' L g b r (dstep D).1 ∧ Turn3 w w' g b r := by
  obtain ⟨A, c, h0, h1, h2, h3, hrow, hre, hz⟩ := h.cells
  clear hrow hre
  have z2 := hz 2
  have z3 := hz 3
  have HD := Lib.hid h.setDead
  have HF := Lib.hid h.setFuse
  have HH := Lib.hid h
  clear hz h
  by_cases f0 : D.fuse = 0
  · have HR : Hid (dstep D = ({ D with dead := true }, 15)) := Lib.hid (by unfold dstep; rw [if_pos f0])
    rw [f0] at h2
    clear f0
    go_enter Try.func43, Try.ntmps43
    go_wp2_with fail
    go_ret
    refine ⟨by rw [HR.out]; rfl, by rw [HR.out]; exact HD.out true, Turn3.set w g b g 3 r (.bool true) (.inl rfl)⟩
  · obtain ⟨x, hx⟩ : ∃ x, x = D.fuse := ⟨_, rfl⟩
    rw [← hx] at f0 h2 hf
    have n0 : (x == 0) = false := by rw [beq_eq_false_iff_ne]; exact f0
    by_cases f1 : 0 < x
    · have HR : Hid (dstep D = ({ D with fuse := x - 1 }, 0)) := Lib.hid (by unfold dstep; rw [← hx, if_neg f0, if_pos f1])
      have d1 : decide (0 < x) = true := decide_eq_true f1
      clear hx f0
      go_enter Try.func43, Try.ntmps43
      go_wp2_with fail
      go_ret
      refine ⟨by rw [HR.out]; rfl, by rw [HR.out]; exact HF.out (x - 1), Turn3.set w g b g 2 r (.int .i64 (x - 1)) (.inl rfl)⟩
    · have HR : Hid (dstep D = (D, 0)) := Lib.hid (by unfold dstep; rw [← hx, if_neg f0, if_neg f1])
      have d1 : decide (0 < x) = false := decide_eq_false f1
      clear hx f0
      go_enter Try.func43, Try.ntmps43
      go_wp2_with fail
      go_ret
      exact ⟨by rw [HR.out]; rfl, by rw [HR.out]; exact HH.out, Turn3.refl w g b r⟩
set_option maxRecDepth 100000 in
theorem fuse_any (L g b : Nat) (r : Option Nat) (D : Dk) (n : Int) (w : World) (h : DkAt w L g b r D) :
    Calls Try.prog 19 #[.pointer (some ⟨g, 0, none⟩), .int .i64 n] w fun e w' => e = .returned (.tuple #[]) ∧ DkAt w' L g b r { D with fuse := n } ∧ Turn3 w w' g b r := by
  obtain ⟨A, c, h0, h1, h2, h3, hrow, hre, hz⟩ := h.cells
  clear hrow hre
  have z2 := hz 2
  have HF := Lib.hid h.setFuse
  clear hz h
  go_enter Try.func19, Try.ntmps19
  go_wp2_with fail
  go_end0
  exact ⟨rfl, HF.out n, Turn3.set w g b g 2 r (.int .i64 n) (.inl rfl)⟩
theorem fuse_nil (n : Int) (w : World) : Calls Try.prog 19 #[.pointer none, .int .i64 n] w fun e w' => e = .returned (.tuple #[]) ∧ w = w' := by
  go_enter Try.func19, Try.ntmps19
  go_wp2_with fail
  go_end0
  exact ⟨rfl, rfl⟩
set_option maxRecDepth 100000 in
theorem size_any (L g b : Nat) (r : Option Nat) (D : Dk) (w : World) (h : DkAt w L g b r D) :
    Calls Try.prog 36 #[.pointer (some ⟨g, 0, none⟩)] w fun e w' => e = .returned (.int .i64 (D.s.length : Int)) ∧ w = w' := by
  obtain ⟨A, c, h0, h1, h2, h3, hrow, hre, hz⟩ := h.cells
  clear hrow hre hz
  go_enter Try.func36, Try.ntmps36
  go_wp2_with fail
  go_ret
  exact ⟨rfl, rfl⟩
theorem size_nil (w : World) : Calls Try.prog 36 #[.pointer none] w fun e w' => e = .returned (.int .i64 0) ∧ w = w' := by
  go_enter Try.func36, Try.ntmps36
  go_wp2_with fail
  go_ret
  exact ⟨rfl, rfl⟩
set_option maxRecDepth 100000 in
theorem dead_any (L g b : Nat) (r : Option Nat) (D : Dk) (w : World) (h : DkAt w L g b r D) :
    Calls Try.prog 45 #[.pointer (some ⟨g, 0, none⟩)] w fun e w' => e = .returned (.bool D.dead) ∧ w = w' := by
  obtain ⟨A, c, h0, h1, h2, h3, hrow, hre, hz⟩ := h.cells
  clear hrow hre hz
  go_enter Try.func45, Try.ntmps45
  go_wp2_with fail
  go_ret
  exact ⟨rfl, rfl⟩
theorem dead_nil (w : World) : Calls Try.prog 45 #[.pointer none] w fun e w' => e = .returned (.bool true) ∧ w = w' := by
  go_enter Try.func45, Try.ntmps45
  go_wp2_with fail
  go_ret
  exact ⟨rfl, rfl⟩
end Go.Proofs.Ytncbhpopobjaiaa

/- A drawn region inside a fence (the round of a range over a function): walked once, as Steady and Tail do outside. -/
namespace Go.Proofs.Ytncbhpopobjaiaa
open Go Go.RowKit

/-- A fence in which any call may be made. -/
structure Free (F : Fence) (m : Nat) (P : Program) : Prop where
  fn : ∀ f, F.fn f
  depth : F.depth = none
  call : ∀ {f : FuncId} {args : Array Value} {w : World} {R : Ending → World → Prop}, Calls P f args w R → CallsIn F (m - 1) P f args w R
theorem free_wide (m : Nat) (P : Program) : Free Fence.wide m P := ⟨fun _ => trivial, rfl, fun h => callsIn_wide.2 h⟩
theorem free_round (l m : Nat) (P : Program) : Free (Fence.wide.inRound l) m P := ⟨fun _ => trivial, rfl, fun h => (callsIn_wide.2 h).inRound l⟩

def noDefer (ops : List Oper) : Bool := ops.all fun o => match o.op with | .defer _ => false | _ => true
theorem noDefer_spec {ops : List Oper} (h : noDefer ops = true) {i : Nat} {o : Oper} (ho : ops.toArray[i]? = some o) : ∀ c, o.op ≠ .defer c := by
  intro c e
  rw [List.getElem?_toArray] at ho
  have := List.all_eq_true.1 h o (List.mem_of_getElem? ho)
  rw [e] at this
  cases this

section
variable {P : Program} {ops : Array Oper} {md : Region.Mode} {G : Tmp → Option Rel} {w0 : World} {n : Nat} {L : Array Bool → Act → Prop} {Qn : Act → World → Prop} {F : Fence} {m : Nat}

theorem wpOpIn_of_gives {Q : Exit → Act → World → Prop} (hFr : Free F m P) {i : Nat} {o : Oper} (ho : ops[i]? = some o) (hnd : ∀ c, o.op ≠ .defer c) {a : Act} {w : World} {R : Value → World → Prop} {K : Act → World → Prop}
    (hwt : Region.wanted o (yielded ops a.tmps) = true) (h1 : gives P o a R w) (next : ∀ u w', Le w w' → R u w' → K (a.put o.dst u) w') : wpOpIn F m P ops Q i K a w := by
  unfold wpOpIn
  simp only [ho, hwt, if_true]
  refine ⟨fun f _ => hFr.fn f, ?_⟩
  rw [Oper.semAt_eq _ _ _ hnd]
  unfold gives at h1
  generalize (execOp a.eval o).run P w = r at *
  cases r with
  | ok n w' =>
    cases n <;> simp only [givesUpon] at h1 <;> simp only [Oper.uponIn]
    case value u => exact next _ _ h1.1 h1.2
    case skip => exact next _ _ h1.1 h1.2
    case enter f args =>
      refine ⟨fun h => (by rw [hFr.depth] at h; cases h), hFr.call (h1.2.mono fun e w'' ⟨v, he, hl, hr⟩ => ?_)⟩
      subst he
      exact next _ _ (h1.1.trans hl) hr
  | halt x w' => simp only [givesUpon] at h1

theorem wpAnyIn_of_G {Q : Exit → Act → World → Prop} (hFr : Free F m P) (hnd : ∀ (i : Nat) (o : Oper), ops[i]? = some o → ∀ c, o.op ≠ .defer c) (hF : Fed ops md G) (hQ : ∀ a w, Qn a w → Q .normal a w) :
    ∀ (fuel : Nat) (listed : Array Bool) (a : Act) (w : World), Inv ops G w0 listed a w → wpAnyG P ops md G w0 Qn fuel listed a → wpAnyIn F m P md ops Q fuel listed a w
  | 0, _, _, w, hw, h => ⟨h.1, hQ _ _ (h.2 w hw)⟩
  | fuel + 1, listed, a, w, hw, h => ⟨fun h0 => hQ _ _ (h.1 h0 w hw), fun i hi => by
      obtain ⟨hun, o, ho, _⟩ := mem_ready.1 hi
      obtain ⟨hg, hn⟩ := h.2 i hi o ho
      by_cases hwt : Region.wanted o (yielded ops a.tmps) = true
      · refine wpOpIn_of_gives hFr ho (hnd i o ho) hwt (hg hwt w (hw.lean hF hi ho)) fun u w' hl hr => ?_
        have hI := (hw.mono hl).put hF ho (u := u) (fun d R hd hR _ => rel_of hr d R hd hR)
        exact wpAnyIn_of_G hFr hnd hF hQ fuel _ _ w' hI (hn u (.inl ⟨hwt, ⟨w', hI⟩, ⟨w', hr⟩⟩))
      · unfold wpOpIn
        simp only [ho, hwt]
        exact ⟨fun f _ => hFr.fn f, wpAnyIn_of_G hFr hnd hF hQ fuel _ _ w (hw.put hF ho (fun d R hd hR h => absurd rfl h)) (hn undef (.inr ⟨by simpa using hwt, rfl⟩))⟩⟩

theorem wpAnyIn_of_H {g : Nat} {Q : Exit → Act → World → Prop} (hFr : Free F m P) (hnd : ∀ (i : Nat) (o : Oper), ops[i]? = some o → ∀ c, o.op ≠ .defer c) (hF : Fed ops md G)
    (hL : ∀ listed a w, L listed a → Inv ops G w0 listed a w → wpAnyIn F m P md ops Q g listed a w) :
    ∀ (f : Nat) (listed : Array Bool) (a : Act) (w : World), Inv ops G w0 listed a w → wpAnyH P ops md G w0 n L f listed a → wpAnyIn F m P md ops Q (f + g) listed a w
  | 0, _, _, w, hw, h => by rw [Nat.zero_add]; exact hL _ _ w h hw
  | fuel + 1, listed, a, w, hw, h => by
    rw [show fuel + 1 + g = (fuel + g) + 1 by omega]
    refine ⟨fun h0 => absurd h0 h.1, fun i hi => ?_⟩
    obtain ⟨hun, o, ho, _⟩ := mem_ready.1 hi
    obtain ⟨hg, hn⟩ := (h.2 i hi).2 o ho
    by_cases hwt : Region.wanted o (yielded ops a.tmps) = true
    · refine wpOpIn_of_gives hFr ho (hnd i o ho) hwt (hg hwt w (hw.lean hF hi ho)) fun u w' hl hr => ?_
      have hI := (hw.mono hl).put hF ho (u := u) (fun d R hd hR _ => rel_of hr d R hd hR)
      exact wpAnyIn_of_H hFr hnd hF hL fuel _ _ w' hI (hn u (.inl ⟨hwt, ⟨w', hI⟩, ⟨w', hr⟩⟩))
    · unfold wpOpIn
      simp only [ho, hwt]
      exact ⟨fun f _ => hFr.fn f, wpAnyIn_of_H hFr hnd hF hL fuel _ _ w (hw.put hF ho (fun d R hd hR h => absurd rfl h)) (hn undef (.inr ⟨by simpa using hwt, rfl⟩))⟩

theorem wpAnyIn_of_seq {Q' : Exit → Act → World → Prop} : ∀ (l : List Oper) (k : Nat) (listed : Array Bool) (a : Act) (w : World), (∀ j, l[j]? = ops[k + j]?) →
    Region.seqB md ops l.length k listed = true → wpListIn F m P ops Q' l a w → wpAnyIn F m P md ops Q' l.length listed a w
  | [], _, _, _, _, _, hB, h => ⟨by simpa [Region.seqB] using hB, h⟩
  | o :: l, k, listed, a, w, hl, hB, h => by
    have h0 : ops[k]? = some o := by simpa using (hl 0).symm
    simp only [List.length_cons, Region.seqB, Bool.and_eq_true, decide_eq_true_eq] at hB
    refine ⟨fun h1 => (by rw [hB.1] at h1; cases h1), fun i hi => ?_⟩
    rw [hB.1] at hi
    have hik : i = k := by simpa using hi
    subst hik
    have hw : wpOpIn F m P ops Q' i (wpListIn F m P ops Q' l) a w := by unfold wpOpIn; simp only [h0]; exact h
    exact wpOpIn_mono (fun a' w' h' => wpAnyIn_of_seq l (i + 1) _ a' w' (fun j => by have := hl (j + 1); simpa [Nat.add_assoc, Nat.add_comm 1 j] using this) hB.2 h') hw
end

/-- A region that draws its order, walked once, inside a fence. -/
theorem wpIn_region_steady {F : Fence} {m : Nat} {P : Program} {id : Nat} {Q : Exit → Act → World → Prop} {a : Act} {w : World} {l : List Oper} (hFr : Free F m P) (hnd : noDefer l = true) (g : List (Tmp × Rel)) (n : Nat) (hm : P.follows .mixedOrders = true) (hB : Region.lexB .any l.toArray = true)
    (hf : fedB l (g.map (·.1)) n = true) (hn : a.tmps.size = n) (h : wpG P l.toArray (openOf g) w (fun a' w' => Q .normal a' w') l a (fun _ => True)) : (Code.region id l.toArray true).wpIn F m P Q a w := by
  simp only [Region.lexB, Bool.and_eq_true] at hB
  obtain ⟨hF, hd⟩ := fedB_fed (n := n) hf
  have hI : ∀ w', Le w w' → Inv l.toArray (openOf g) w (Array.replicate l.toArray.size false) a w' := fun w' hl => ⟨hl, fun k o d R _ hk => by
    exfalso
    rw [getD_replicate_false] at hk
    cases hk⟩
  refine wpIn_region_any hm (wpAnyIn_of_G (Qn := fun a' w' => Q .normal a' w') (w0 := w) hFr (fun i o ho => noDefer_spec hnd ho) hF (fun _ _ h => h) _ _ _ _ (hI { w with drawn := w.drawn + 1 } ((Below.refl _ _).drew)) ?_)
  have := wpAnyG_lex hF hB.1 n hd l 0 (Array.replicate l.toArray.size false) a (fun _ => True) (by simp) (by simpa using hB.2) hn ⟨_, hI w (Le.refl w)⟩ (fun _ _ => trivial) h
  simpa using this

/-- The first mm operations walked once; the others, which wait for them, in a row: inside a fence. -/
theorem wpIn_region_tail {F : Fence} {m : Nat} {P : Program} {id : Nat} {Q : Exit → Act → World → Prop} {a : Act} {w : World} {l : List Oper} (hFr : Free F m P) (hnd : noDefer l = true) (g : List (Tmp × Rel)) (nt mm : Nat) (hm : P.follows .mixedOrders = true) (hB : Region.lexTailB .any l.toArray mm = true)
    (hf : fedB l (g.map (·.1)) nt = true) (hn : a.tmps.size = nt) (h : wpG P l.toArray (openOf g) w (fun a' w' => wpListIn F m P l.toArray Q (l.drop mm) a' w') (l.take mm) a (fun _ => True)) : (Code.region id l.toArray true).wpIn F m P Q a w := by
  simp only [Region.lexTailB, Bool.and_eq_true, decide_eq_true_eq] at hB
  obtain ⟨⟨⟨⟨hsel, hn'⟩, hs⟩, hc⟩, hlex⟩ := hB
  obtain ⟨hF, hd⟩ := fedB_fed (n := nt) hf
  have hnl : mm < l.length := by simpa using hn'
  have htl : (l.take mm).length = mm := by simp; omega
  have hdl : (l.drop mm).length = l.toArray.size - mm := by simp
  have hI : ∀ w', Le w w' → Inv l.toArray (openOf g) w (Array.replicate l.toArray.size false) a w' := fun w' hl => ⟨hl, fun k o d R _ hk => by
    exfalso
    rw [getD_replicate_false] at hk
    cases hk⟩
  have inv0 : HeadInv .any l.toArray mm (Array.replicate l.toArray.size false) :=
    ⟨by simp, fun j oj _ hl => (by rw [getD_replicate_false] at hl; cases hl), fun t _ ht => getD_in (by simpa using ht) (getD_replicate_false _ _)⟩
  have H := wpAnyH_lex (md := .any) (g := l.toArray.size - mm) hF hsel hs hc hn' nt hd (l.take mm) 0 _ a (fun _ => True) (fun j hj => by
    have hj' : j < mm := by rw [htl] at hj; exact hj
    simp [hj']) (by simpa using htl) inv0 (by rw [htl]; exact hlex) hn ⟨_, hI w (Le.refl w)⟩ (fun _ _ => trivial) h
  refine wpIn_region_any hm ?_
  have := wpAnyIn_of_H (Q := Q) (g := l.toArray.size - mm) hFr (fun i o ho => noDefer_spec hnd ho) hF (fun listed a' w' hL hw => by
    have := wpAnyIn_of_seq (md := .any) (Q' := Q) (l.drop mm) mm listed a' w' (fun j => by simp [List.getElem?_drop]) (by rw [hdl]; exact hL.1) (hL.2 w' hw)
    rwa [hdl] at this) _ _ _ _ (hI { w with drawn := w.drawn + 1 } ((Below.refl _ _).drew)) H
  rw [htl, show mm + (l.toArray.size - mm) = l.toArray.size by omega] at this
  exact this
end Go.Proofs.Ytncbhpopobjaiaa

/- Whole structs loaded and stored inside a fence: the laws of the plain walk, for a round. -/
namespace Go.Proofs.Ytncbhpopobjaiaa
set_option linter.unusedVariables false
open Go Go.RowKit

section
variable {F : Fence} {n : Nat} {P : Program} {ops : Array Oper} {rest : List Oper} {o : Oper} {a : Act} {w : World} {Q : Exit → Act → World → Prop}
theorem wpListIn_exec (hg : o.guard = none) (hd : ∀ c, o.op ≠ .defer c) (hab : o.about P w a.eval = none) (v : Value) (he : (execOp a.eval o).run P w = .ok (.value v) w)
    (h : wpListIn F n P ops Q rest (a.put o.dst v) w) : wpListIn F n P ops Q (o :: rest) a w := by
  refine wpListIn_plain hg fun K hK' => ?_
  unfold Oper.wpIn
  refine ⟨fun f hf => (by rw [hab] at hf; cases hf), ?_⟩
  rw [Oper.semAt_plain F _ _ hd, he]
  exact hK' _ _ h
theorem wpListIn_load (hg : o.guard = none) (ty : TypeId) (x : Operand) (ho : o.op = .load ty x) (b k : Nat) (hx : a.eval x = .pointer (some ⟨b, k, none⟩)) (cs : List Value) (d : TypeDesc) (hc : w.rangeAt b k cs)
    (hu : P.underlying ty = some d) (hd : d.isRow = true) (hi : (P.info? ty).map (·.size) = some cs.length)
    (h : wpListIn F n P ops Q rest (a.put o.dst (.agg cs.toArray)) w) : wpListIn F n P ops Q (o :: rest) a w :=
  wpListIn_exec hg (by rw [ho]; intro c hc; cases hc) (by simp [Oper.about, ho]) _ (exec_load ty x ho b k hx cs d hc hu hd hi) h
theorem wpListIn_store (hg : o.guard = none) (ty : TypeId) (x y : Operand) (ho : o.op = .store ty x y) (b k : Nat) (cells : Array Value) (hx : a.eval x = .pointer (some ⟨b, k, none⟩)) (hy : a.eval y = .agg cells)
    (ht : w.there b k cells.size) (hi : (P.info? ty).map (·.size) = some cells.size) (h1 : cells.all (·.oneCell') = true)
    (h : wpListIn F n P ops Q rest (a.put o.dst undef) (w.setCells b k cells.toList)) : wpListIn F n P ops Q (o :: rest) a w := by
  refine wpListIn_plain hg fun K hK' => ?_
  unfold Oper.wpIn
  refine ⟨fun f hf => (by simp [Oper.about, ho] at hf), ?_⟩
  rw [Oper.semAt_plain F _ _ (by rw [ho]; intro c hc; cases hc)]
  unfold execOp
  simp only [ho, hx, hy, Sem.run_bind, Sem.run_pure, run_storeAt_mid w b k ty cells ht hi h1, Result.andThen_ok]
  exact hK' _ _ h
end
end Go.Proofs.Ytncbhpopobjaiaa

/- Disks: cells of sectors; a write that comes to its outcome: settle: what it returns. -/
namespace Go.Proofs.Ytncbhpopobjaiaa
set_option linter.unusedVariables false
set_option linter.unusedSimpArgs false
open Go Go.RowKit

theorem cons_len {α : Type} {n : Nat} {l : List α} (h : l.length = n + 1) : ∃ x l', l = x :: l' ∧ l'.length = n := by
  cases l with
  | nil => cases h
  | cons x l => exact ⟨x, l, rfl, by simpa using h⟩
set_option maxRecDepth 100000 in
theorem run_secb (b : B64) (w : World) : (Instr.build 104 #[(0, .agg (bvs b.1).toArray)]).run Try.prog w = .ok (.agg (scell (b, false)).toArray) w := by
  obtain ⟨l, h⟩ := b
  obtain ⟨c0, l0, rfl, h0⟩ := cons_len h
  obtain ⟨c1, l1, rfl, h1⟩ := cons_len h0
  obtain ⟨c2, l2, rfl, h2⟩ := cons_len h1
  obtain ⟨c3, l3, rfl, h3⟩ := cons_len h2
  obtain ⟨c4, l4, rfl, h4⟩ := cons_len h3
  obtain ⟨c5, l5, rfl, h5⟩ := cons_len h4
  obtain ⟨c6, l6, rfl, h6⟩ := cons_len h5
  obtain ⟨c7, l7, rfl, h7⟩ := cons_len h6
  obtain ⟨c8, l8, rfl, h8⟩ := cons_len h7
  obtain ⟨c9, l9, rfl, h9⟩ := cons_len h8
  obtain ⟨c10, l10, rfl, h10⟩ := cons_len h9
  obtain ⟨c11, l11, rfl, h11⟩ := cons_len h10
  obtain ⟨c12, l12, rfl, h12⟩ := cons_len h11
  obtain ⟨c13, l13, rfl, h13⟩ := cons_len h12
  obtain ⟨c14, l14, rfl, h14⟩ := cons_len h13
  obtain ⟨c15, l15, rfl, h15⟩ := cons_len h14
  obtain ⟨c16, l16, rfl, h16⟩ := cons_len h15
  obtain ⟨c17, l17, rfl, h17⟩ := cons_len h16
  obtain ⟨c18, l18, rfl, h18⟩ := cons_len h17
  obtain ⟨c19, l19, rfl, h19⟩ := cons_len h18
  obtain ⟨c20, l20, rfl, h20⟩ := cons_len h19
  obtain ⟨c21, l21, rfl, h21⟩ := cons_len h20
  obtain ⟨c22, l22, rfl, h22⟩ := cons_len h21
  obtain ⟨c23, l23, rfl, h23⟩ := cons_len h22
  obtain ⟨c24, l24, rfl, h24⟩ := cons_len h23
  obtain ⟨c25, l25, rfl, h25⟩ := cons_len h24
  obtain ⟨c26, l26, rfl, h26⟩ := cons_len h25
  obtain ⟨c27, l27, rfl, h27⟩ := cons_len h26
  obtain ⟨c28, l28, rfl, h28⟩ := cons_len h27
  obtain ⟨c29, l29, rfl, h29⟩ := cons_len h28
  obtain ⟨c30, l30, rfl, h30⟩ := cons_len h29
  obtain ⟨c31, l31, rfl, h31⟩ := cons_len h30
  obtain ⟨c32, l32, rfl, h32⟩ := cons_len h31
  obtain ⟨c33, l33, rfl, h33⟩ := cons_len h32
  obtain ⟨c34, l34, rfl, h34⟩ := cons_len h33
  obtain ⟨c35, l35, rfl, h35⟩ := cons_len h34
  obtain ⟨c36, l36, rfl, h36⟩ := cons_len h35
  obtain ⟨c37, l37, rfl, h37⟩ := cons_len h36
  obtain ⟨c38, l38, rfl, h38⟩ := cons_len h37
  obtain ⟨c39, l39, rfl, h39⟩ := cons_len h38
  obtain ⟨c40, l40, rfl, h40⟩ := cons_len h39
  obtain ⟨c41, l41, rfl, h41⟩ := cons_len h40
  obtain ⟨c42, l42, rfl, h42⟩ := cons_len h41
  obtain ⟨c43, l43, rfl, h43⟩ := cons_len h42
  obtain ⟨c44, l44, rfl, h44⟩ := cons_len h43
  obtain ⟨c45, l45, rfl, h45⟩ := cons_len h44
  obtain ⟨c46, l46, rfl, h46⟩ := cons_len h45
  obtain ⟨c47, l47, rfl, h47⟩ := cons_len h46
  obtain ⟨c48, l48, rfl, h48⟩ := cons_len h47
  obtain ⟨c49, l49, rfl, h49⟩ := cons_len h48
  obtain ⟨c50, l50, rfl, h50⟩ := cons_len h49
  obtain ⟨c51, l51, rfl, h51⟩ := cons_len h50
  obtain ⟨c52, l52, rfl, h52⟩ := cons_len h51
  obtain ⟨c53, l53, rfl, h53⟩ := cons_len h52
  obtain ⟨c54, l54, rfl, h54⟩ := cons_len h53
  obtain ⟨c55, l55, rfl, h55⟩ := cons_len h54
  obtain ⟨c56, l56, rfl, h56⟩ := cons_len h55
  obtain ⟨c57, l57, rfl, h57⟩ := cons_len h56
  obtain ⟨c58, l58, rfl, h58⟩ := cons_len h57
  obtain ⟨c59, l59, rfl, h59⟩ := cons_len h58
  obtain ⟨c60, l60, rfl, h60⟩ := cons_len h59
  obtain ⟨c61, l61, rfl, h61⟩ := cons_len h60
  obtain ⟨c62, l62, rfl, h62⟩ := cons_len h61
  obtain ⟨c63, l63, rfl, h63⟩ := cons_len h62
  obtain rfl := List.eq_nil_of_length_eq_zero h63
  kernel_rfl
set_option maxRecDepth 100000 in
theorem run_wr1 (a : Int) (b : B64) (w : World) : (Instr.buildSlice 78 1 #[(0, .agg (wcell (a, b)).toArray)]).run Try.prog w = .ok (.slice (some ⟨w.heap.size, 0, none⟩) 1 1) (w.alloc (.cells (wcell (a, b)).toArray 86)) := by
  obtain ⟨l, h⟩ := b
  obtain ⟨c0, l0, rfl, h0⟩ := cons_len h
  obtain ⟨c1, l1, rfl, h1⟩ := cons_len h0
  obtain ⟨c2, l2, rfl, h2⟩ := cons_len h1
  obtain ⟨c3, l3, rfl, h3⟩ := cons_len h2
  obtain ⟨c4, l4, rfl, h4⟩ := cons_len h3
  obtain ⟨c5, l5, rfl, h5⟩ := cons_len h4
  obtain ⟨c6, l6, rfl, h6⟩ := cons_len h5
  obtain ⟨c7, l7, rfl, h7⟩ := cons_len h6
  obtain ⟨c8, l8, rfl, h8⟩ := cons_len h7
  obtain ⟨c9, l9, rfl, h9⟩ := cons_len h8
  obtain ⟨c10, l10, rfl, h10⟩ := cons_len h9
  obtain ⟨c11, l11, rfl, h11⟩ := cons_len h10
  obtain ⟨c12, l12, rfl, h12⟩ := cons_len h11
  obtain ⟨c13, l13, rfl, h13⟩ := cons_len h12
  obtain ⟨c14, l14, rfl, h14⟩ := cons_len h13
  obtain ⟨c15, l15, rfl, h15⟩ := cons_len h14
  obtain ⟨c16, l16, rfl, h16⟩ := cons_len h15
  obtain ⟨c17, l17, rfl, h17⟩ := cons_len h16
  obtain ⟨c18, l18, rfl, h18⟩ := cons_len h17
  obtain ⟨c19, l19, rfl, h19⟩ := cons_len h18
  obtain ⟨c20, l20, rfl, h20⟩ := cons_len h19
  obtain ⟨c21, l21, rfl, h21⟩ := cons_len h20
  obtain ⟨c22, l22, rfl, h22⟩ := cons_len h21
  obtain ⟨c23, l23, rfl, h23⟩ := cons_len h22
  obtain ⟨c24, l24, rfl, h24⟩ := cons_len h23
  obtain ⟨c25, l25, rfl, h25⟩ := cons_len h24
  obtain ⟨c26, l26, rfl, h26⟩ := cons_len h25
  obtain ⟨c27, l27, rfl, h27⟩ := cons_len h26
  obtain ⟨c28, l28, rfl, h28⟩ := cons_len h27
  obtain ⟨c29, l29, rfl, h29⟩ := cons_len h28
  obtain ⟨c30, l30, rfl, h30⟩ := cons_len h29
  obtain ⟨c31, l31, rfl, h31⟩ := cons_len h30
  obtain ⟨c32, l32, rfl, h32⟩ := cons_len h31
  obtain ⟨c33, l33, rfl, h33⟩ := cons_len h32
  obtain ⟨c34, l34, rfl, h34⟩ := cons_len h33
  obtain ⟨c35, l35, rfl, h35⟩ := cons_len h34
  obtain ⟨c36, l36, rfl, h36⟩ := cons_len h35
  obtain ⟨c37, l37, rfl, h37⟩ := cons_len h36
  obtain ⟨c38, l38, rfl, h38⟩ := cons_len h37
  obtain ⟨c39, l39, rfl, h39⟩ := cons_len h38
  obtain ⟨c40, l40, rfl, h40⟩ := cons_len h39
  obtain ⟨c41, l41, rfl, h41⟩ := cons_len h40
  obtain ⟨c42, l42, rfl, h42⟩ := cons_len h41
  obtain ⟨c43, l43, rfl, h43⟩ := cons_len h42
  obtain ⟨c44, l44, rfl, h44⟩ := cons_len h43
  obtain ⟨c45, l45, rfl, h45⟩ := cons_len h44
  obtain ⟨c46, l46, rfl, h46⟩ := cons_len h45
  obtain ⟨c47, l47, rfl, h47⟩ := cons_len h46
  obtain ⟨c48, l48, rfl, h48⟩ := cons_len h47
  obtain ⟨c49, l49, rfl, h49⟩ := cons_len h48
  obtain ⟨c50, l50, rfl, h50⟩ := cons_len h49
  obtain ⟨c51, l51, rfl, h51⟩ := cons_len h50
  obtain ⟨c52, l52, rfl, h52⟩ := cons_len h51
  obtain ⟨c53, l53, rfl, h53⟩ := cons_len h52
  obtain ⟨c54, l54, rfl, h54⟩ := cons_len h53
  obtain ⟨c55, l55, rfl, h55⟩ := cons_len h54
  obtain ⟨c56, l56, rfl, h56⟩ := cons_len h55
  obtain ⟨c57, l57, rfl, h57⟩ := cons_len h56
  obtain ⟨c58, l58, rfl, h58⟩ := cons_len h57
  obtain ⟨c59, l59, rfl, h59⟩ := cons_len h58
  obtain ⟨c60, l60, rfl, h60⟩ := cons_len h59
  obtain ⟨c61, l61, rfl, h61⟩ := cons_len h60
  obtain ⟨c62, l62, rfl, h62⟩ := cons_len h61
  obtain ⟨c63, l63, rfl, h63⟩ := cons_len h62
  obtain rfl := List.eq_nil_of_length_eq_zero h63
  kernel_rfl
theorem run_wrb (a : Int) (w : World) : (Instr.build 86 #[(0, .int .i64 a)]).run Try.prog w = .ok (.agg (wcell (a, z64)).toArray) w := by kernel_rfl
theorem zero_sec (w : World) : (Instr.alloc 104 true (.tuple #[])).run Try.prog w = .ok (.pointer (some ⟨w.heap.size, 0, none⟩)) (w.alloc (.cells (scell (z64, false)).toArray 104)) := by kernel_rfl
theorem zero_wr (w : World) : (Instr.alloc 86 true (.tuple #[])).run Try.prog w = .ok (.pointer (some ⟨w.heap.size, 0, none⟩)) (w.alloc (.cells (wcell (0, z64)).toArray 86)) := by kernel_rfl
theorem info_bytes : (Try.prog.info? 84).map (·.size) = some 64 := by kernel_rfl
theorem info_sec : (Try.prog.info? 104).map (·.size) = some 65 := by kernel_rfl
theorem info_wri : (Try.prog.info? 86).map (·.size) = some 65 := by kernel_rfl
section
variable {P : Program} {ops : Array Oper} {rest : List Oper} {o : Oper} {a : Act} {w : World} {Q : Exit → Act → World → Prop}
/-- A struct, built of one part, by its run. -/
theorem exec_build (t : TypeId) (x : Operand) (ho : o.op = .build t #[(0, x)]) (v r : Value) (hx : a.eval x = v) (hr : (Instr.build t #[(0, v)]).run P w = .ok r w) : (execOp a.eval o).run P w = .ok (.value r) w := by
  unfold execOp
  simp only [ho, List.map_toArray, List.map_cons, List.map_nil, hx, Sem.run_bind, hr, Result.andThen_ok, Sem.run_pure]
/-- A new variable, its cells by its run. -/
theorem wpList_new (hgd : o.guard = none) (t : TypeId) (ho : o.op = .alloc t) (zs : List Value) (hr : (Instr.alloc t true (.tuple #[])).run P w = .ok (.pointer (some ⟨w.heap.size, 0, none⟩)) (w.alloc (.cells zs.toArray t)))
    (h : wpList P ops Q rest (a.put o.dst (.pointer (some ⟨w.heap.size, 0, none⟩))) (w.alloc (.cells zs.toArray t))) : wpList P ops Q (o :: rest) a w :=
  wpList_plain hgd fun _ hK => by
    unfold Oper.wp execOp
    simp only [ho, Sem.run_bind, hr, Result.andThen_ok, Sem.run_pure]
    exact hK _ _ h
end
theorem scell_set64 (c : Sc) (x : Bool) : (scell c).set 64 (.bool x) = scell (c.1, x) := by
  unfold scell
  rw [List.set_append_right _ _ (by rw [bvs_length, c.1.2]; exact Nat.le_refl _), bvs_length, c.1.2]
  rfl
theorem scs_set64 (x : Bool) : ∀ (l : List Sc) (k : Nat), k < l.length → (scs l).set (k * 65 + 64) (.bool x) = scs (l.set k ((l.getD k (z64, false)).1, x))
  | [], k, h => by simp at h
  | c :: l, 0, _ => by
    show (scell c ++ scs l).set (0 * 65 + 64) _ = scell (c.1, x) ++ scs l
    rw [List.set_append_left _ _ (by rw [scell_len]; omega), Nat.zero_mul, Nat.zero_add, scell_set64]
  | c :: l, k + 1, h => by
    have ih := scs_set64 x l k (by simpa using h)
    show (scell c ++ scs l).set ((k + 1) * 65 + 64) _ = scell c ++ scs (l.set k ((l.getD k (z64, false)).1, x))
    rw [List.set_append_right _ _ (by rw [scell_len]; omega), scell_len, show (k + 1) * 65 + 64 - 65 = k * 65 + 64 by omega, ih]
theorem DkAt.setBad {w : World} {L g b : Nat} {r : Option Nat} {D : Dk} (h : DkAt w L g b r D) (k : Nat) (hk : k < D.s.length) : DkAt (w.setCell ⟨b, k * 65 + 64, none⟩ (.bool true)) L g b r { D with s := D.s.set k ((D.s.getD k (z64, false)).1, true) } := by
  obtain ⟨⟨A, c, B, hr, e⟩, h2, h3, h4, h5, h6, h7⟩ := h
  refine ⟨⟨A, c, ?_, row_apartD hr (by rw [← e]; exact h5) [.bool true] (k * 65 + 64), e⟩, ?_, h3, h4, h5, h6, h7⟩
  · have := B.setOther (b := b) (k * 65 + 64) (.bool true) (fun e => h3 e.symm)
    simpa using this
  · have := h2.set (k * 65 + 64) (.bool true)
    rw [scs_set64 true D.s k hk] at this
    exact this
end Go.Proofs.Ytncbhpopobjaiaa

/- Disks: a write that comes to its outcome: settle: what it returns. -/
namespace Go.Proofs.Ytncbhpopobjaiaa
set_option linter.unusedVariables false
set_option linter.unusedSimpArgs false
open Go Go.RowKit

set_option maxRecDepth 100000 in
set_option maxHeartbeats 3200000 in
theorem settle_any (L g b : Nat) (r : Option Nat) (D : Dk) (x : Wr) (o : Int) (w : World) (h : DkAt w L g b r D) (hx : dhas D x.1 = true) :
    Calls Try.prog 39 #[.pointer (some ⟨g, 0, none⟩), .agg (wcell x).toArray, .int .i64 o] w fun e w' => e = .returned (.tuple #[]) ∧ DkAt w' L g b r { D with s := dsettle D.s x o } ∧ Turn3 w w' b b none := by
  obtain ⟨xa, bb⟩ := x
  unfold dhas at hx
  rw [decide_eq_true_eq] at hx
  obtain ⟨k, rfl⟩ : ∃ k : Nat, xa = (k : Int) := ⟨xa.toNat, by omega⟩
  have hk : k < D.s.length := by omega
  have hub := Try.underlying84
  have BW := Blk.new w (wcell ((k : Int), bb)) 86
  have hW := (Below.refl w.heap.size w).alloc (Nat.le_refl _) (.cells (wcell ((k : Int), bb)).toArray 86)
  have H1 := h.later hW
  have HT1 := Lib.hid (Turn3.of_below hW b b none)
  have HBR : Hid (((wcell ((k : Int), bb)).drop 1).take (bvs bb.1).length = bvs bb.1) := Lib.hid (by
    show (bvs bb.1).take (bvs bb.1).length = _
    exact List.take_length)
  have hat := BW.cell (j := 0) (v := .int .i64 (k : Int)) rfl
  obtain ⟨wc, hwc⟩ : ∃ wc, wc = wcell ((k : Int), bb) := ⟨_, rfl⟩
  rw [← hwc] at BW hW H1 HT1 HBR hat ⊢
  obtain ⟨W, hWW⟩ : ∃ W, W = w.alloc (.cells wc.toArray 86) := ⟨_, rfl⟩
  rw [← hWW] at BW hW H1 HT1 hat
  have HWW := Lib.hid hWW
  obtain ⟨n, hn⟩ : ∃ n, n = D.s.length := ⟨_, rfl⟩
  have HN := Lib.hid hn
  have hlt := hW.size
  have hgl := h.lt
  clear hwc hWW h
  by_cases o1 : o = 1
  · subst o1
    obtain ⟨A, c, h0, h1, h2, h3, hrow, hre, hz⟩ := H1.cells
    rw [← hn] at h0 hk
    clear hrow hre hz h1 h2 h3 hn
    have HS : Hid (dsettle D.s ((k : Int), bb) 1 = D.s.set k (bb, false)) := Lib.hid (by unfold dsettle; rw [if_pos rfl]; rfl)
    have HBS := Lib.hid (run_secb bb)
    have TH := Lib.hid (H1.secs.there (k * 65) 65 (by rw [scs_len]; have := HN.out; have := Nat.mul_le_mul_right 65 (Nat.succ_le_of_lt hk); omega))
    have ON := all_oneCell_toArray (scell_one (bb, false))
    have HSL : Hid ((scell (bb, false)).length = 65) := Lib.hid (scell_len _)
    have HD := Lib.hid (H1.setSec k (by rw [← HN.out]; exact hk) (bb, false))
    have HTS := Lib.hid (Turn3.sets W b b b none (scell (bb, false)) (k * 65) (.inr rfl))
    obtain ⟨sc, hsc⟩ : ∃ sc, sc = scell (bb, false) := ⟨_, rfl⟩
    obtain ⟨bl, hbl⟩ : ∃ bl, bl = bvs bb.1 := ⟨_, rfl⟩
    have HBL : Hid (bl.length = 64) := Lib.hid (by rw [hbl, bvs_length, bb.2])
    rw [← hbl] at HBR HBS
    rw [← hsc] at HBS ON HSL HD HTS
    have IN : (Try.prog.info? 104).map (·.size) = some sc.toArray.size := by rw [(List.size_toArray).trans HSL.out]; exact info_sec
    have H1 := Lib.hid H1
    have HSC := Lib.hid hsc
    clear hsc hbl
    rw [HWW.out] at hat
    go_enter Try.func39, Try.ntmps39
    go_wp2_with fail
    rw [← HWW.out]
    rw [← HWW.out] at hat
    have c0 : ∀ kk : LW W, kk.val.cell? ⟨g, 0, none⟩ = some (.slice (some ⟨b, 0, none⟩) n n) := fun kk => (kk.le.cell (p := ⟨g, 0, none⟩) (H1.out.lt.1)).trans h0
    have c1 : ∀ kk : LW W, kk.val.cell? ⟨w.heap.size, 0, none⟩ = some (.int .i64 (k : Int)) := fun kk => (kk.le.cell (p := ⟨w.heap.size, 0, none⟩) BW.lt).trans hat
    clear h0 hat
    refine wp_region_tail [] 29 10 (by kernel_rfl) (by kernel_rfl) (by kernel_rfl) (by rfl) ?_
    simp only [List.take_succ_cons, List.take_zero, List.drop_succ_cons, List.drop_zero]
    iterate 4 (refine wpG_quiet (by rfl) (by rfl) (by rfl) (fun K hK => ?_); go_big_quiet_op; refine hK _ ?_; clear hK K)
    iterate 3 (refine wpG_quiet (by rfl) (by rfl) (by rfl) (fun K hK => ?_); go_big_quiet_op; refine hK _ ?_; clear hK K)
    refine wpG_run (by rfl) (by rfl) (.agg bl.toArray) (fun wx hl => exec_load 84 (.tmp 15) rfl w.heap.size 1 rfl bl _ ((BW.later hl.1).range 1 bl HBR.out) hub rfl (by rw [HBL.out]; exact info_bytes)) ?_
    simp only [Act.put, List.setIfInBounds_toArray, List.set_cons_zero, List.set_cons_succ]
    refine wpG_run (by rfl) (by rfl) (.agg sc.toArray) (fun wx hl => exec_build 104 (.tmp 16) rfl (.agg bl.toArray) (.agg sc.toArray) rfl (HBS.out wx)) ?_
    simp only [Act.put, List.setIfInBounds_toArray, List.set_cons_zero, List.set_cons_succ]
    iterate 1 (refine wpG_quiet (by rfl) (by rfl) (by rfl) (fun K hK => ?_); go_big_quiet_op; refine hK _ ?_; clear hK K)
    refine wpG_nil fun wx hl _ => ?_
    have H5 := Lib.hid (DkAt.setSec (H1.out.later hl) k (by rw [← HN.out]; exact hk) (bb, false))
    have HT5 := Lib.hid ((HT1.out.trans (Turn3.of_below hl b b none) (RowN.refl _ _)).trans (Turn3.sets wx b b b none (scell (bb, false)) (k * 65) (.inr rfl)) (RowN.refl _ _))
    have TH5 : wx.there b (k * 65) sc.toArray.size := by
      rw [(List.size_toArray).trans HSL.out]
      exact (H1.out.secs.later hl).there (k * 65) 65 (by rw [scs_len]; have := HN.out; have := Nat.mul_le_mul_right 65 (Nat.succ_le_of_lt hk); omega)
    rw [← HSC.out] at H5 HT5
    clear c0 c1 hl
    refine wpList_store_mid rfl 104 (.tmp 18) (.tmp 17) rfl b (k * 65) sc.toArray rfl rfl TH5 IN ON ?_
    simp only [Act.put]
    generalize hw6 : World.setCells _ b (k * 65) sc.toArray.toList = w6
    have H6 : DkAt w6 L g b r { D with s := D.s.set k (bb, false) } := by rw [← hw6]; exact H5.out
    have T6 : Turn3 w w6 b b none := by rw [← hw6]; exact HT5.out
    clear hw6 TH5 H5 HT5
    have H6 := Lib.hid H6
    have T6 := Lib.hid T6
    go_wp2_with fail
    go_end0
    exact ⟨rfl, by rw [HS.out]; exact H6.out, T6.out⟩
  · by_cases o2 : o = 2
    · subst o2
      obtain ⟨A, c, h0, h1, h2, h3, hrow, hre, hz⟩ := H1.cells
      rw [← hn] at h0 hk
      clear hrow hre hz h1 h2 h3 hn o1
      have HS : Hid (dsettle D.s ((k : Int), bb) 2 = D.s.set k ((D.s.getD k (z64, false)).1, true)) := Lib.hid (by unfold dsettle; rw [if_neg (by decide), if_pos rfl]; rfl)
      have H1 := Lib.hid H1
      rw [HWW.out] at hat
      go_enter Try.func39, Try.ntmps39
      go_wp2_with fail
      rw [← HWW.out]
      rw [← HWW.out] at hat
      have c0 : ∀ kk : LW W, kk.val.cell? ⟨g, 0, none⟩ = some (.slice (some ⟨b, 0, none⟩) n n) := fun kk => (kk.le.cell (p := ⟨g, 0, none⟩) (H1.out.lt.1)).trans h0
      have c1 : ∀ kk : LW W, kk.val.cell? ⟨w.heap.size, 0, none⟩ = some (.int .i64 (k : Int)) := fun kk => (kk.le.cell (p := ⟨w.heap.size, 0, none⟩) BW.lt).trans hat
      clear h0 hat
      refine wp_region_tail [] 29 8 (by kernel_rfl) (by kernel_rfl) (by kernel_rfl) (by rfl) ?_
      simp only [List.take_succ_cons, List.take_zero, List.drop_succ_cons, List.drop_zero]
      iterate 4 (refine wpG_quiet (by rfl) (by rfl) (by rfl) (fun K hK => ?_); go_big_quiet_op; refine hK _ ?_; clear hK K)
      iterate 2 (refine wpG_quiet (by rfl) (by rfl) (by rfl) (fun K hK => ?_); go_big_quiet_op; refine hK _ ?_; clear hK K)
      iterate 2 (refine wpG_quiet (by rfl) (by rfl) (by rfl) (fun K hK => ?_); go_big_quiet_op; refine hK _ ?_; clear hK K)
      refine wpG_nil fun wx hl _ => ?_
      have H2 := H1.out.later hl
      have fz := H2.secs.frozen (k * 65 + 64)
      have cz : ∃ v, wx.cell? ⟨b, k * 65 + 64, none⟩ = some v := by
        have hlen : k * 65 + 64 < (scs D.s).length := by rw [scs_len]; have := HN.out; have := Nat.mul_le_mul_right 65 (Nat.succ_le_of_lt hk); omega
        exact ⟨_, H2.secs.cell (List.getElem?_eq_getElem hlen)⟩
      obtain ⟨vz, cz⟩ := cz
      have H5 := Lib.hid (DkAt.setBad H2 k (by rw [← HN.out]; exact hk))
      have HT5 := Lib.hid ((HT1.out.trans (Turn3.of_below hl b b none) (RowN.refl _ _)).trans (Turn3.set wx b b b (k * 65 + 64) none (.bool true) (.inr rfl)) (RowN.refl _ _))
      clear c0 c1 hl H2
      trace_state
      go_wp2_with fail
      go_end0
      exact ⟨rfl, by rw [HS.out]; exact H5.out, HT5.out⟩
    · have e1 : (o == 1) = false := by rw [beq_eq_false_iff_ne]; exact o1
      have e2 : (o == 2) = false := by rw [beq_eq_false_iff_ne]; exact o2
      have HS : Hid (dsettle D.s ((k : Int), bb) o = D.s) := Lib.hid (by unfold dsettle; rw [if_neg o1, if_neg o2])
      have H1 := Lib.hid H1
      clear hat hn o1 o2
      go_enter Try.func39, Try.ntmps39
      go_wp2_with fail
      go_end0
      rw [← HWW.out]
      exact ⟨rfl, by rw [HS.out]; exact H1.out, HT1.out⟩
end Go.Proofs.Ytncbhpopobjaiaa
