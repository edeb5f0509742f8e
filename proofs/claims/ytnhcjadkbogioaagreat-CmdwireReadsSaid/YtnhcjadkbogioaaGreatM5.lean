/- When two values, fields, cards, patches are the same: what == gives. -/
import Derived.Test.YtnhcjadkbogioaaGreatM4
import Derived.Laws.StructEq
import Derived.Test.YtnhcjadkbogioaaGreatM3
import Derived.StillTail
import Derived.Maps.AppendAt
import Derived.OwnWalk
set_option maxRecDepth 100000
set_option linter.unusedVariables false
set_option maxHeartbeats 6400000
namespace Go.Proofs.YtnhcjadkbogioaaGreat
open Go Go.RowKit BitM
theorem fieldsP : Tryz.prog.underlying 36 = some (.struct (Tryz.prog.fieldsOf 36)) := by kernel_rfl
theorem fcells_ext (f : List V3) (i : Nat) (h : i < f.length) : (fcells f).toArray.extract (i * 3) (i * 3 + 3) = (vcells f[i]).toArray := by
  rw [← fcells_drop f i h, Nat.mul_comm i 3]
  simp [List.extract_eq_take_drop]
theorem all_fields : ∀ (f g : List V3), f.length = g.length → ((List.range f.length).all fun i => decide (f.getD i zv = g.getD i zv)) = decide (f = g)
  | [], [], _ => rfl
  | x :: xs, y :: ys, h => by
    have ih := all_fields xs ys (by simpa using h)
    rw [List.length_cons, List.range_succ_eq_map, List.all_cons, List.all_map]
    simp only [List.getD_cons_zero, Function.comp_def, List.getD_cons_succ, ih]
    by_cases h1 : x = y <;> by_cases h2 : xs = ys <;> simp [h1, h2]
  | [], _ :: _, h => by simp at h
  | _ :: _, [], h => by simp at h
theorem eq_fields (d : Nat) (f g : List V3) (hf : f.length = 8) (hg : g.length = 8) (w : World) :
    (Op.equalIn (d + 3) 34 (.agg (fcells f).toArray) (.agg (fcells g).toArray)).run Tryz.prog w = .ok (decide (f = g)) w := by
  have hsz : ∀ w, (sizeOf 33).run Tryz.prog w = .ok 3 w := fun w => by kernel_rfl
  have hag : ∀ w, (isAgg 33).run Tryz.prog w = .ok true w := fun w => by kernel_rfl
  rw [← all_fields f g (hf.trans hg.symm), hf, List.range_eq_range', Op.equalIn]
  simp only [Sem.run_bind, run_underlying Tryz.underlying34, Result.andThen_ok, hsz, Std.Legacy.Range.forIn_eq_forIn_range', Std.Legacy.Range.size, Nat.sub_zero, Nat.add_sub_cancel, Nat.div_one]
  have hl : ∀ i ∈ List.range' 0 8 1, i < 8 := fun i hi => by simpa using (List.mem_range'_1.1 hi).2
  generalize List.range' 0 8 1 = l at hl ⊢
  induction l with
  | nil => simp
  | cons i l ih =>
    have hi : i < 8 := hl i (by simp)
    have px : (part 33 (fcells f).toArray (i * 3)).run Tryz.prog w = .ok (.agg (vcells (f.getD i zv)).toArray) w := by
      have h : i < f.length := by omega
      simp only [part, Sem.run_bind, hag, Result.andThen_ok, hsz, if_true, Sem.run_pure, fcells_ext f i h]
      simp [List.getD, h]
    have py : (part 33 (fcells g).toArray (i * 3)).run Tryz.prog w = .ok (.agg (vcells (g.getD i zv)).toArray) w := by
      have h : i < g.length := by omega
      simp only [part, Sem.run_bind, hag, Result.andThen_ok, hsz, if_true, Sem.run_pure, fcells_ext g i h]
      simp [List.getD, h]
    simp only [List.forIn_cons, Sem.run_bind, px, py, eq_val d, Result.andThen_ok, List.all_cons]
    cases hb : decide (f.getD i zv = g.getD i zv)
    · simp
    · simp only [Bool.not_true, Bool.false_eq_true, if_false, Sem.run_pure, Result.andThen_ok, Bool.true_and]
      exact ih fun j hj => hl j (by simp [hj])
theorem fcells_pre (pre : List Value) (f : List V3) (o : Nat) (ho : pre.length = o) (hf : f.length = 8) : (pre ++ fcells f).toArray.extract o (o + 24) = (fcells f).toArray := by
  subst ho
  have hl : (fcells f).length = 24 := by rw [fcells_len, hf]
  simp [List.extract_eq_take_drop, ← hl]
theorem eq_patch (d : Nat) (m lab m' lab' : Int) (f g : List V3) (hf : f.length = 8) (hg : g.length = 8) (w : World) :
    (Op.equalIn (d + 4) 36 (.agg (pcells m lab f).toArray) (.agg (pcells m' lab' g).toArray)).run Tryz.prog w = .ok (decide (m = m' ∧ lab = lab' ∧ f = g)) w := by
  have hsz : ∀ w, (sizeOf 34).run Tryz.prog w = .ok 24 w := fun w => by kernel_rfl
  have hag : ∀ w, (isAgg 34).run Tryz.prog w = .ok true w := fun w => by kernel_rfl
  rw [run_equalIn_agg w (d + 3) 36 _ _ fieldsP (by kernel_rfl)]
  have e : (Tryz.prog.fieldsOf 36).toList = [⟨"Mask", 31, 0, false, "", "", 0⟩, ⟨"Labels", 31, 1, false, "", "", 4⟩, ⟨"F", 34, 2, false, "", "", 8⟩] := by kernel_rfl
  rw [e]
  have px : ∀ (a b : Int) (h : List V3), h.length = 8 → (part 34 (pcells a b h).toArray 2).run Tryz.prog w = .ok (.agg (fcells h).toArray) w := fun a b h hh => by
    simp only [part, Sem.run_bind, hag, Result.andThen_ok, hsz, if_true, Sem.run_pure]
    unfold pcells
    rw [fcells_pre _ h 2 rfl hh]
  have p0 : ∀ (a b : Int) (h : List V3), (part 31 (pcells a b h).toArray 0).run Tryz.prog w = .ok (.int .u32 a) w := fun a b h => by simp [go_sem, part, isAgg, pcells]
  have p1 : ∀ (a b : Int) (h : List V3), (part 31 (pcells a b h).toArray 1).run Tryz.prog w = .ok (.int .u32 b) w := fun a b h => by simp [go_sem, part, isAgg, pcells]
  have ef := eq_fields d f g hf hg w
  have q1 : ∀ a b : Int, (Op.equalIn (d + 3) 31 (.int .u32 a) (.int .u32 b)).run Tryz.prog w = .ok (a == b) w := fun a b => run_equalIn_int w (d + 2) 31 .u32 .u32 a b Tryz.underlying31
  simp only [Op.eqFields, if_pos (show ("Mask" : String) ≠ "_" by decide), if_pos (show ("Labels" : String) ≠ "_" by decide), if_pos (show ("F" : String) ≠ "_" by decide)]
  simp only [Sem.run_bind, Sem.run_ite, Sem.run_pure, px _ _ f hf, px _ _ g hg, p0, p1, q1, ef, Result.andThen_ok]
  by_cases h1 : m = m' <;> by_cases h2 : lab = lab' <;> by_cases h4 : f = g <;> simp [h1, h2, h4]
section
variable {P : Program} {ops : Array Oper} {rest : List Oper} {op : Oper} {a : Act} {w : World} {Q : Exit → Act → World → Prop}
end
def fok (x : BitVec 32) (f : List V3) (k : Nat) : Bool := (List.range k).all fun i => vchk (f.getD i zv) && (decide ((f.getD i zv).1 = 0) || has x (i : Int))
theorem fok_succ (x : BitVec 32) (f : List V3) (k : Nat) : fok x f (k + 1) = (fok x f k && (vchk (f.getD k zv) && (decide ((f.getD k zv).1 = 0) || has x (k : Int)))) := by
  unfold fok
  rw [List.range_succ, List.all_append]
  simp
theorem fok_mono (x : BitVec 32) (f : List V3) {j k : Nat} (h : j ≤ k) (hf : fok x f j = false) : fok x f k = false := by
  induction k with
  | zero => obtain rfl : j = 0 := by omega
            exact hf
  | succ k ih =>
    by_cases e : j = k + 1
    · subst e; exact hf
    · rw [fok_succ, ih (by omega)]; rfl
def pchk (x : BitVec 32) (lab : Int) (f : List V3) : Int :=
  if 511 < x.toNat ∨ x.toNat = 0 then 11 else if 65536 ≤ lab ∨ (lab ≠ 0 ∧ has x 8 = false) then 1 else if fok x f 8 then 0 else 1
theorem rpcheck_any (x : BitVec 32) (lab : Int) (f : List V3) (w : World) (hf : f.length = 8) :
    Calls Tryz.prog 55 #[.agg (pcells (x.toNat : Int) lab f).toArray] w fun e w' => e = .returned (.int .i64 (pchk x lab f)) ∧ Below w.heap.size w w' := by
  have HF := hid hf
  clear hf
  have B0 := Blk.new w (pcells (x.toNat : Int) lab f) 36
  obtain ⟨pa, hpa⟩ : ∃ pa, pa = (pcells (x.toNat : Int) lab f).toArray := ⟨_, rfl⟩
  rw [← hpa] at B0 ⊢
  have hw0 := (Below.refl w.heap.size w).alloc (Nat.le_refl _) (.cells pa 36)
  have HB := hid hw0
  obtain ⟨p0, p1⟩ := B0.patch
  have HM := hid (rmcheck_any x (w.alloc (.cells pa 36)))
  obtain ⟨R, hR⟩ : ∃ R, R = pchk x lab f := ⟨_, rfl⟩
  rw [← hR]
  have HR := hid hR
  clear hR hw0 hpa
  by_cases h1 : x.toNat ≤ 511
  · rw [decide_eq_true h1] at HM
    by_cases h2 : x.toNat = 0
    · have b2 : ((x.toNat : Int) == 0) = true := by rw [h2]; rfl
      have hRR : R = 11 := by rw [HR.out]; unfold pchk; rw [if_pos (.inr h2)]
      have HRR := hid hRR
      clear hRR h2 h1
      go_enter Tryz.func55, Tryz.ntmps55
      go_wp2_with fail
      refine HM.out.mono ?_
      rintro e w' ⟨rfl, rfl⟩
      go_wp2_with fail
      go_ret
      exact ⟨by rw [HRR.out]; rfl, HB.out⟩
    · have b2 : ((x.toNat : Int) == 0) = false := by rw [beq_eq_false_iff_ne]; omega
      have hn : ¬ (511 < x.toNat ∨ x.toNat = 0) := by omega
      by_cases h3 : 65536 ≤ lab
      · have d3 : decide (65536 ≤ lab) = true := by simpa using h3
        have HRR : Hid (R = 1) := hid (by rw [HR.out]; unfold pchk; rw [if_neg hn, if_pos (.inl h3)])
        clear h1 h2 h3 hn
        go_enter Tryz.func55, Tryz.ntmps55
        go_wp2_with fail
        refine HM.out.mono ?_
        rintro e w' ⟨rfl, rfl⟩
        go_wp2_with fail
        go_ret
        exact ⟨by rw [HRR.out]; rfl, HB.out⟩
      · have d3 : decide (65536 ≤ lab) = false := by simpa using h3
        have HL := hid (rlabels_any x (w.alloc (.cells pa 36)))
        by_cases h4 : lab = 0
        · have b4 : (lab != 0) = false := by simpa using h4
          have hRR : R = if fok x f 8 then 0 else 1 := by rw [HR.out]; unfold pchk; rw [if_neg hn, if_neg (by omega)]
          have RES : fok x f 8 = false → R = 1 := fun h => by rw [hRR, h]; rfl
          have RES0 : fok x f 8 = true → R = 0 := fun h => by rw [hRR, h]; rfl
          have HRES := hid RES
          have HRES0 := hid RES0
          clear h1 h2 h3 h4 hn hRR RES RES0
          go_enter Tryz.func55, Tryz.ntmps55
          go_wp2_with fail
          refine HM.out.mono ?_
          rintro e w' ⟨rfl, rfl⟩
          go_wp2_with fail
          go_loopw [3] (fun i wr => ∃ k : Nat, k ≤ 8 ∧ i = .int .i64 k ∧ Blk wr w.heap.size (pcells (x.toNat : Int) lab f) ∧ Hid (fok x f k = true) ∧ Below w.heap.size w wr) (fun i _ => 8 - (intOf i).toNat)
          case atStart => exact ⟨0, by omega, rfl, B0, hid rfl, HB.out⟩
          case round =>
            obtain ⟨k, hk, rfl, D0, HK, hbr⟩ := hrel
            clear p0 p1 B0 HB
            by_cases hlt : k < 8
            · have hkf : k < f.length := by rw [HF.out]; exact hlt
              obtain ⟨l0, l1, l2⟩ := Blk.field (o := 2) D0 k rfl hkf
              obtain ⟨p0, p1⟩ := D0.patch
              have d8 : (k : Int) < 8 := by omega
              have HS := hid (fok_succ x f k)
              obtain ⟨⟨v0, v1, v2⟩, hv⟩ : ∃ v, v = f[k] := ⟨_, rfl⟩
              have hg : f.getD k zv = (v0, v1, v2) := by rw [hv]; simp [List.getD, hkf]
              have HG := hid hg
              rw [← hv] at l0 l1 l2
              simp only at l0 l1 l2
              have HC := hid (fun wx : World => rvcheck_any v0 v1 v2 wx)
              have HV := hid hv
              clear hv hg
              cases hc : vchk (v0, v1, v2) with
              | false =>
                rw [hc] at HC
                have HCC := hid hc
                clear hc
                go_wp2_with fail
                refine (HC.out _).mono ?_
                rintro e w1 ⟨rfl, hb⟩
                have hbw := hbr.trans (hb.mono hbr.size)
                go_wp2_with fail
                go_ret
                refine ⟨?_, hbw⟩
                have hfin : R = 1 := HRES.out (fok_mono x f (j := k + 1) (by omega) (by rw [HS.out, HG.out, HCC.out]; simp))
                rw [hfin]
                rfl
              | true =>
                rw [hc] at HC
                have HCC := hid hc
                clear hc
                by_cases hz : v0 = 0
                · have bz : (v0 != 0) = false := by simpa using hz
                  have HZ := hid hz
                  clear hz
                  go_wp2_with fail
                  refine (HC.out _).mono ?_
                  rintro e w1 ⟨rfl, hb⟩
                  have hbw := hbr.trans (hb.mono hbr.size)
                  have D1 := D0.later hb
                  obtain ⟨m0, m1, m2⟩ := Blk.field (o := 2) D1 k rfl hkf
                  rw [← HV.out] at m0
                  simp only at m0
                  clear m1 m2
                  clear D0 l0 l1 l2 p0 p1
                  go_wp2_with fail
                  go_roundw
                  case rel => exact ⟨k + 1, by omega, by go_num, D1, hid (by rw [HS.out, HK.out, HG.out, HCC.out]; simp [HZ.out]), hbw⟩
                  case measure => simp [intOf]; omega
                · have bz : (v0 != 0) = true := by simpa using hz
                  have HZ := hid hz
                  clear hz
                  cases hh : has x (k : Int) with
                  | true =>
                    have HHX := hid hh
                    have HX := hid (fun wx : World => rhas_any x (k : Int) wx)
                    rw [hh] at HX
                    clear hh
                    go_wp2_with fail
                    refine (HC.out _).mono ?_
                    rintro e w1 ⟨rfl, hb⟩
                    have hbw := hbr.trans (hb.mono hbr.size)
                    have D1 := D0.later hb
                    obtain ⟨m0, m1, m2⟩ := Blk.field (o := 2) D1 k rfl hkf
                    obtain ⟨r0, r1⟩ := D1.patch
                    rw [← HV.out] at m0
                    simp only at m0
                    clear m1 m2
                    clear D0 l0 l1 l2 p0 p1
                    go_wp2_with fail
                    refine (HX.out _).mono ?_
                    rintro e w2 ⟨rfl, rfl⟩
                    go_wp2_with fail
                    go_roundw
                    case rel => exact ⟨k + 1, by omega, by go_num, D1, hid (by rw [HS.out, HK.out, HG.out, HCC.out, HHX.out]; simp), hbw⟩
                    case measure => simp [intOf]; omega
                  | false =>
                    have HHX := hid hh
                    have HX := hid (fun wx : World => rhas_any x (k : Int) wx)
                    rw [hh] at HX
                    clear hh
                    go_wp2_with fail
                    refine (HC.out _).mono ?_
                    rintro e w1 ⟨rfl, hb⟩
                    have hbw := hbr.trans (hb.mono hbr.size)
                    have D1 := D0.later hb
                    obtain ⟨m0, m1, m2⟩ := Blk.field (o := 2) D1 k rfl hkf
                    obtain ⟨r0, r1⟩ := D1.patch
                    rw [← HV.out] at m0
                    simp only at m0
                    clear m1 m2
                    clear D0 l0 l1 l2 p0 p1
                    go_wp2_with fail
                    refine (HX.out _).mono ?_
                    rintro e w2 ⟨rfl, rfl⟩
                    go_wp2_with fail
                    go_ret
                    refine ⟨?_, hbw⟩
                    have hfin : R = 1 := HRES.out (fok_mono x f (j := k + 1) (by omega) (by rw [HS.out, HK.out, HG.out, HCC.out, HHX.out]; simp [HZ.out]))
                    rw [hfin]
                    rfl
            · obtain rfl : k = 8 := by omega
              go_wp2_with fail
              go_ret
              exact ⟨by rw [HRES0.out HK.out]; rfl, hbr⟩
        · have b4 : (lab != 0) = true := by simpa using h4
          cases h8 : has x 8 with
          | false =>
            rw [h8] at HL
            have HRR : Hid (R = 1) := hid (by rw [HR.out]; unfold pchk; rw [if_neg hn, if_pos (.inr ⟨h4, h8⟩)])
            clear h1 h2 h3 h4 hn h8
            go_enter Tryz.func55, Tryz.ntmps55
            go_wp2_with fail
            refine HM.out.mono ?_
            rintro e w' ⟨rfl, rfl⟩
            go_wp2_with fail
            refine HL.out.mono ?_
            rintro e w' ⟨rfl, rfl⟩
            go_wp2_with fail
            go_ret
            exact ⟨by rw [HRR.out]; rfl, HB.out⟩
          | true =>
            rw [h8] at HL
            have hRR : R = if fok x f 8 then 0 else 1 := by rw [HR.out]; unfold pchk; rw [if_neg hn, if_neg (by simp [h8]; omega)]
            have RES : fok x f 8 = false → R = 1 := fun h => by rw [hRR, h]; rfl
            have RES0 : fok x f 8 = true → R = 0 := fun h => by rw [hRR, h]; rfl
            have HRES := hid RES
            have HRES0 := hid RES0
            clear h1 h2 h3 h4 hn h8 hRR RES RES0
            go_enter Tryz.func55, Tryz.ntmps55
            go_wp2_with fail
            refine HM.out.mono ?_
            rintro e w' ⟨rfl, rfl⟩
            go_wp2_with fail
            refine HL.out.mono ?_
            rintro e w' ⟨rfl, rfl⟩
            go_wp2_with fail
            go_loopw [3] (fun i wr => ∃ k : Nat, k ≤ 8 ∧ i = .int .i64 k ∧ Blk wr w.heap.size (pcells (x.toNat : Int) lab f) ∧ Hid (fok x f k = true) ∧ Below w.heap.size w wr) (fun i _ => 8 - (intOf i).toNat)
            case atStart => exact ⟨0, by omega, rfl, B0, hid rfl, HB.out⟩
            case round =>
              obtain ⟨k, hk, rfl, D0, HK, hbr⟩ := hrel
              clear p0 p1 B0 HB
              by_cases hlt : k < 8
              · have hkf : k < f.length := by rw [HF.out]; exact hlt
                obtain ⟨l0, l1, l2⟩ := Blk.field (o := 2) D0 k rfl hkf
                obtain ⟨p0, p1⟩ := D0.patch
                have d8 : (k : Int) < 8 := by omega
                have HS := hid (fok_succ x f k)
                obtain ⟨⟨v0, v1, v2⟩, hv⟩ : ∃ v, v = f[k] := ⟨_, rfl⟩
                have hg : f.getD k zv = (v0, v1, v2) := by rw [hv]; simp [List.getD, hkf]
                have HG := hid hg
                rw [← hv] at l0 l1 l2
                simp only at l0 l1 l2
                have HC := hid (fun wx : World => rvcheck_any v0 v1 v2 wx)
                have HV := hid hv
                clear hv hg
                cases hc : vchk (v0, v1, v2) with
                | false =>
                  rw [hc] at HC
                  have HCC := hid hc
                  clear hc
                  go_wp2_with fail
                  refine (HC.out _).mono ?_
                  rintro e w1 ⟨rfl, hb⟩
                  have hbw := hbr.trans (hb.mono hbr.size)
                  go_wp2_with fail
                  go_ret
                  refine ⟨?_, hbw⟩
                  have hfin : R = 1 := HRES.out (fok_mono x f (j := k + 1) (by omega) (by rw [HS.out, HG.out, HCC.out]; simp))
                  rw [hfin]
                  rfl
                | true =>
                  rw [hc] at HC
                  have HCC := hid hc
                  clear hc
                  by_cases hz : v0 = 0
                  · have bz : (v0 != 0) = false := by simpa using hz
                    have HZ := hid hz
                    clear hz
                    go_wp2_with fail
                    refine (HC.out _).mono ?_
                    rintro e w1 ⟨rfl, hb⟩
                    have hbw := hbr.trans (hb.mono hbr.size)
                    have D1 := D0.later hb
                    obtain ⟨m0, m1, m2⟩ := Blk.field (o := 2) D1 k rfl hkf
                    rw [← HV.out] at m0
                    simp only at m0
                    clear m1 m2
                    clear D0 l0 l1 l2 p0 p1
                    go_wp2_with fail
                    go_roundw
                    case rel => exact ⟨k + 1, by omega, by go_num, D1, hid (by rw [HS.out, HK.out, HG.out, HCC.out]; simp [HZ.out]), hbw⟩
                    case measure => simp [intOf]; omega
                  · have bz : (v0 != 0) = true := by simpa using hz
                    have HZ := hid hz
                    clear hz
                    cases hh : has x (k : Int) with
                    | true =>
                      have HHX := hid hh
                      have HX := hid (fun wx : World => rhas_any x (k : Int) wx)
                      rw [hh] at HX
                      clear hh
                      go_wp2_with fail
                      refine (HC.out _).mono ?_
                      rintro e w1 ⟨rfl, hb⟩
                      have hbw := hbr.trans (hb.mono hbr.size)
                      have D1 := D0.later hb
                      obtain ⟨m0, m1, m2⟩ := Blk.field (o := 2) D1 k rfl hkf
                      obtain ⟨r0, r1⟩ := D1.patch
                      rw [← HV.out] at m0
                      simp only at m0
                      clear m1 m2
                      clear D0 l0 l1 l2 p0 p1
                      go_wp2_with fail
                      refine (HX.out _).mono ?_
                      rintro e w2 ⟨rfl, rfl⟩
                      go_wp2_with fail
                      go_roundw
                      case rel => exact ⟨k + 1, by omega, by go_num, D1, hid (by rw [HS.out, HK.out, HG.out, HCC.out, HHX.out]; simp), hbw⟩
                      case measure => simp [intOf]; omega
                    | false =>
                      have HHX := hid hh
                      have HX := hid (fun wx : World => rhas_any x (k : Int) wx)
                      rw [hh] at HX
                      clear hh
                      go_wp2_with fail
                      refine (HC.out _).mono ?_
                      rintro e w1 ⟨rfl, hb⟩
                      have hbw := hbr.trans (hb.mono hbr.size)
                      have D1 := D0.later hb
                      obtain ⟨m0, m1, m2⟩ := Blk.field (o := 2) D1 k rfl hkf
                      obtain ⟨r0, r1⟩ := D1.patch
                      rw [← HV.out] at m0
                      simp only at m0
                      clear m1 m2
                      clear D0 l0 l1 l2 p0 p1
                      go_wp2_with fail
                      refine (HX.out _).mono ?_
                      rintro e w2 ⟨rfl, rfl⟩
                      go_wp2_with fail
                      go_ret
                      refine ⟨?_, hbw⟩
                      have hfin : R = 1 := HRES.out (fok_mono x f (j := k + 1) (by omega) (by rw [HS.out, HK.out, HG.out, HCC.out, HHX.out]; simp [HZ.out]))
                      rw [hfin]
                      rfl
              · obtain rfl : k = 8 := by omega
                go_wp2_with fail
                go_ret
                exact ⟨by rw [HRES0.out HK.out]; rfl, hbr⟩
  · rw [decide_eq_false h1] at HM
    have HRR : Hid (R = 11) := hid (by rw [HR.out]; unfold pchk; rw [if_pos (.inl (by omega))])
    clear h1
    go_enter Tryz.func55, Tryz.ntmps55
    go_wp2_with fail
    refine HM.out.mono ?_
    rintro e w' ⟨rfl, rfl⟩
    go_wp2_with fail
    go_ret
    exact ⟨by rw [HRR.out]; rfl, HB.out⟩
theorem info_fields : (Tryz.prog.info? 34).map (·.size) = some 24 := by kernel_rfl
theorem Blk.fieldsP {w : World} {g : Nat} {m lab : Int} {f : List V3} (h : Blk w g (pcells m lab f)) : w.rangeAt g 2 (fcells f) := by
  refine h.range 2 _ ?_
  unfold pcells
  rw [List.drop_append_of_le_length (by simp), List.drop_eq_nil_of_le (by simp), List.nil_append, List.take_length]
theorem Blk.wholeC {w : World} {g : Nat} {cs : List Value} (h : Blk w g cs) : w.rangeAt g 0 cs := h.range 0 cs (by rw [List.drop_zero, List.take_length])
end Go.Proofs.YtnhcjadkbogioaaGreat
namespace Go.Proofs.YtnhcjadkbogioaaGreat
open Go Go.RowKit OctM
def abvOut (l : List UInt8) (a : Nat) (e m : Int) : Nat × Nat × Int :=
  ((numOut l a e m).1, (numOut l a e m).2.1, if (numOut l a e m).1 = 0 then failOut (numOut l a e m).2.2 3 else (numOut l a e m).2.2)
theorem abvOut_at (l : List UInt8) (a : Nat) (e m : Int) (h : a ≤ l.length) : (abvOut l a e m).2.1 ≤ l.length := numOut_at l a e m h
def fldOut (must : Bool) (l : List UInt8) (a : Nat) (e : Int) : V3 × Nat × Int :=
  ((valOut l a e).1, (valOut l a e).2.1, if must = true ∧ (valOut l a e).1.1 = 0 then failOut (valOut l a e).2.2 3 else (valOut l a e).2.2)
theorem fldOut_at (must : Bool) (l : List UInt8) (a : Nat) (e : Int) (h : a ≤ l.length) : (fldOut must l a e).2.1 ≤ l.length := valOut_at l a e h
def Tri (g c : Nat) (w w' : World) : Prop := ∃ w1 w2, w.grownBy w1 (some g) ∧ w1.grownBy w2 (some c) ∧ w2.grownBy w' (some g)
section
variable {g c : Nat} {w w' : World}
theorem Tri.new {W0 : World} (t : Tri g c w w') (h : W0.grownBy w (some g)) (hc : W0.heap.size ≤ c) : W0.grownBy w' (some g) := by
  obtain ⟨w1, w2, t1, t2, t3⟩ := t
  exact (grown_new (h.trans t1) t2 hc).trans t3
theorem Own.other {base m : Nat} {e : TypeId} {v : Value} {xs : List Value} (h : Own w base e v xs) (hg : w.grownBy w' (some m)) (hm : m < base) : Own w' base e v xs := by
  refine h.kept hg ?_
  by_cases h0 : v.ownBlock = none
  · exact .inl h0
  · right
    intro he
    have := (h.lt _ he).1
    omega
theorem Tri.own {base : Nat} {e : TypeId} {v : Value} {xs : List Value} (t : Tri g c w w') (h : Own w base e v xs) (h1 : g < base) (h2 : c < base) : Own w' base e v xs := by
  obtain ⟨w1, w2, t1, t2, t3⟩ := t
  exact ((h.other t1 h1).other t2 h2).other t3 h1
theorem Tri.blk {b : Nat} {cs : List Value} (t : Tri g c w w') (h : Blk w b cs) (h1 : g ≠ b) (h2 : c ≠ b) : Blk w' b cs := by
  obtain ⟨w1, w2, t1, t2, t3⟩ := t
  exact ((h.kept t1 (by simpa using h1)).kept t2 (by simpa using h2)).kept t3 (by simpa using h1)
theorem Tri.size (t : Tri g c w w') : w.heap.size ≤ w'.heap.size := by
  obtain ⟨w1, w2, t1, t2, t3⟩ := t
  exact Nat.le_trans t1.size (Nat.le_trans t2.size t3.size)
theorem Blk.putField {pre : List Value} {f : List V3} (h : Blk w g (pre ++ fcells f)) (i : Nat) (hi : i < f.length) (v : V3) :
    Blk (w.setCells g (pre.length + i * 3) (vcells v)) g (pre ++ fcells (f.set i v)) := by
  have hl : (fcells f).length = 3 * f.length := fcells_len f
  have h2 := h.sets (vcells v) (pre.length + i * 3) (by rw [List.length_append, hl]; show _ + 3 ≤ _; omega)
  have e : (pre ++ fcells f).take (pre.length + i * 3) ++ vcells v ++ (pre ++ fcells f).drop (pre.length + i * 3 + (vcells v).length) = pre ++ fcells (f.set i v) := by
    rw [show (vcells v).length = 3 from rfl, List.take_append, List.drop_append, Nat.add_sub_cancel_left]
    rw [List.take_of_length_le (by omega), List.drop_eq_nil_of_le (by omega), List.nil_append, show pre.length + i * 3 + 3 - pre.length = 3 * i + 3 by omega, Nat.mul_comm i 3]
    rw [List.append_assoc, List.append_assoc, ← List.append_assoc ((fcells f).take _), fcells_set _ _ _ hi]
  rw [e] at h2
  exact h2
end
theorem rd_above (base g : Nat) (l : List UInt8) (a : Nat) (e m : Int) (w : World) (h : Rd w base g l a e) (ha : a ≤ l.length) (hm : l.length ≤ 4000) :
    Calls Tryz.prog 68 #[.pointer (some ⟨g, 0, none⟩), .int .i64 m] w fun x w' => x = .returned (.int .i64 ((abvOut l a e m).1 : Nat)) ∧ Rd w' base g l (abvOut l a e m).2.1 (abvOut l a e m).2.2 ∧ w.grownBy w' (some g) := by
  have H1 := hid (rd_num base g l a e m w h ha (by omega))
  unfold abvOut
  simp only
  obtain ⟨r1, hr1⟩ : ∃ r, r = numOut l a e m := ⟨_, rfl⟩
  rw [← hr1] at H1 ⊢
  obtain ⟨v1, a1, e1⟩ := r1
  simp only at H1 ⊢
  have HF := hid (fun wx (hx : Rd wx base g l a1 e1) => rd_fail base g l a1 e1 3 wx hx)
  clear hr1
  by_cases c1 : v1 = 0
  · subst c1
    rw [if_pos rfl]
    have HK := hid (show ((0 : Nat) : Int) = 0 from rfl)
    obtain ⟨k, hk⟩ : ∃ k : Int, k = ((0 : Nat) : Int) := ⟨_, rfl⟩
    rw [← hk] at H1 ⊢
    have t1 : (k == 0) = true := by rw [hk]; rfl
    clear hk
    go_enter Tryz.func68, Tryz.ntmps68
    go_wp2_with fail
    refine H1.out.mono ?_
    rintro x w1 ⟨rfl, R1, G1⟩
    go_wp2_with fail
    refine (HF.out _ R1).mono ?_
    rintro x w2 ⟨rfl, R2, G2⟩
    go_wp2_with fail
    go_ret
    exact ⟨rfl, R2, G1.trans G2⟩
  · rw [if_neg c1]
    obtain ⟨k, hk⟩ : ∃ k : Int, k = (v1 : Int) := ⟨_, rfl⟩
    have t1 : (k == 0) = false := by rw [hk]; simpa using c1
    rw [← hk] at H1 ⊢
    clear hk c1
    go_enter Tryz.func68, Tryz.ntmps68
    go_wp2_with fail
    refine H1.out.mono ?_
    rintro x w1 ⟨rfl, R1, G1⟩
    go_wp2_with fail
    go_ret
    exact ⟨rfl, R1, G1⟩
theorem rd_patchfield (base g bx bc i : Nat) (hi : i < 8) (l : List UInt8) (a : Nat) (e : Int) (pm lab : Int) (f : List V3) (hf : f.length = 8) (w : World) (h : Rd w base g l a e) (ha : a ≤ l.length) (hm : l.length ≤ 4000)
    (hB : Blk w bc (pcells pm lab f)) (hX : Blk w bx [.pointer (some ⟨g, 0, none⟩)]) (h1 : g < bx) (h2 : g < bc) (h3 : bx ≠ bc) :
    Calls Tryz.prog 69 #[.int .i64 i, .pointer (some ⟨bx, 0, none⟩), .pointer (some ⟨bc, 0, none⟩)] w fun x w' => x = .returned (.bool ((fldOut false l a e).2.2 == 0)) ∧ Rd w' base g l (fldOut false l a e).2.1 (fldOut false l a e).2.2 ∧
      Blk w' bc (pcells pm lab (f.set i (fldOut false l a e).1)) ∧ Tri g bc w w' := by
  have HV := hid (rd_value base g l a e w h ha hm)
  unfold fldOut
  simp only
  obtain ⟨r1, hr1⟩ : ∃ r, r = valOut l a e := ⟨_, rfl⟩
  rw [← hr1] at HV ⊢
  obtain ⟨⟨v0, v1, v2⟩, a1, e1⟩ := r1
  simp only at HV ⊢
  have HF := hid (fun wx (hx : Rd wx base g l a1 e1) => rd_fail base g l a1 e1 3 wx hx)
  have HE := hid (fun wx e2 (hx : Rd wx base g l a1 e2) => rd_err base g l a1 e2 wx hx)
  have ne1 : (some g : Option Nat) ≠ some bc := by simp; omega
  have ne2 : (some g : Option Nat) ≠ some bx := by simp; omega
  have x0 : w.cell? ⟨bx, 0, none⟩ = some (.pointer (some ⟨g, 0, none⟩)) := hX.cell rfl
  have i0 : (0 : Int) ≤ (i : Int) := by omega
  have i8 : (i : Int) < 8 := by omega
  have HFL := hid hf
  have HI := hid hi
  have HFO := hid (show ∀ ee : Int, failOut ee 3 = if ee = 0 then 3 else ee from fun _ => rfl)
  clear hr1 h ha hm hf hi
  rw [if_neg (by simp)]
  go_enter Tryz.func69, Tryz.ntmps69
  go_wp2_with fail
  refine HV.out.mono ?_
  rintro x w1 ⟨rfl, R1, G1⟩
  have B1 := hB.kept G1 ne1
  have X1 := hX.kept G1 ne2
  have T1 := B1.there (2 + i * 3) 3 (by rw [pcells_len _ _ HFL.out]; have := HI.out; omega)
  have S1 := Blk.putField (pre := [.int .u32 pm, .int .u32 lab]) B1 i (by rw [HFL.out]; exact HI.out) (v0, v1, v2)
  have XS1 := X1.setsOther (b := bc) (Ne.symm h3) (vcells (v0, v1, v2)) (2 + i * 3)
  have RS1 := R1.other (grown_sets4 bc (vcells (v0, v1, v2)) (2 + i * 3) w1) h2
  have GS1 := grown_sets4 bc (vcells (v0, v1, v2)) (2 + i * 3) w1
  have O1 : (vcells (v0, v1, v2)).toArray.all (·.oneCell') = true := vcells_all _
  have x1 : w1.cell? ⟨bx, 0, none⟩ = some (.pointer (some ⟨g, 0, none⟩)) := X1.cell rfl
  clear B1 X1 R1 x0 hB hX
  go_wp2_with (first
    | (refine wpList_store_mid rfl 33 (.tmp 9) (.tmp 7) rfl bc (2 + i * 3) (vcells (v0, v1, v2)).toArray rfl rfl T1 info_val O1 ?_
       simp only [Act.put]
       generalize hw3 : World.setCells _ bc (2 + i * 3) (vcells (v0, v1, v2)).toArray.toList = w3
       have S3 : Blk w3 bc ([.int .u32 pm, .int .u32 lab] ++ fcells (f.set i (v0, v1, v2))) := hw3 ▸ S1
       have X3 : Blk w3 bx [.pointer (some ⟨g, 0, none⟩)] := hw3 ▸ XS1
       have R3 : Rd w3 base g l a1 e1 := hw3 ▸ RS1
       have G3 : w1.grownBy w3 (some bc) := hw3 ▸ GS1
       have q1 : w3.cell? ⟨bc, 2 + i * 3, none⟩ = some (.int .i64 v0) := by
         have hs := (Blk.field S3 2 i rfl (by rw [List.length_set, HFL.out]; exact HI.out)).1
         simpa using hs
       have x3 : w3.cell? ⟨bx, 0, none⟩ = some (.pointer (some ⟨g, 0, none⟩)) := X3.cell rfl
       clear hw3 S1 XS1 RS1 GS1 T1 x1 O1)
    | fail)
  refine (HE.out _ _ R3).mono ?_
  rintro x w4 ⟨rfl, rfl⟩
  go_wp2_with fail
  go_ret
  exact ⟨rfl, R3, S3, w1, w3, G1, G3, World.grownBy.refl _ _⟩
end Go.Proofs.YtnhcjadkbogioaaGreat
namespace Go.Proofs.YtnhcjadkbogioaaGreat
open Go Go.RowKit
section
variable (P : Program) (ops : Array Oper) (md : Region.Mode) (G : Tmp → Option Rel) (w0 : World) (n : Nat) (L : Array Bool → Act → Prop)
def wpAnyH : Nat → Array Bool → Act → Prop
  | 0, listed, a => L listed a
  | f + 1, listed, a => Region.ready md ops listed ≠ [] ∧ ∀ i ∈ Region.ready md ops listed, i < n ∧ gOp P ops G w0 i listed (wpAnyH f (listed.setIfInBounds i true)) a
end
section
variable {P : Program} {ops : Array Oper} {md : Region.Mode} {G : Tmp → Option Rel} {w0 : World} {n : Nat} {L : Array Bool → Act → Prop}
end
end Go.Proofs.YtnhcjadkbogioaaGreat
namespace Go.Proofs.YtnhcjadkbogioaaGreat
open Go Go.RowKit
theorem le_grown {w w' : World} (h : Le w w') (row : Option Nat) : w.grownBy w' row := ⟨h.os, h.tape, h.output, h.size, fun k hk _ => h.block k hk⟩
structure RelT (row : Option Nat) where
  rel : Value → World → Prop
  mono : ∀ v w w', w.grownBy w' row → rel v w → rel v w'
  real : ∀ w, ¬ rel undef w
structure Turns where
  row : Option Nat
  Z : Nat → World → Prop
  at_ : List Nat
namespace Turns
def num (T : Turns) (i : Nat) : Option Nat := T.at_.findIdx? (· == i)
theorem num_get {T : Turns} {i k : Nat} (h : T.num i = some k) : ∃ hk : k < T.at_.length, T.at_[k] = i := by
  unfold num at h
  rw [List.findIdx?_eq_some_iff_getElem] at h
  obtain ⟨hk, h1, _⟩ := h
  exact ⟨hk, by simpa using h1⟩
theorem num_inj {T : Turns} {i j k : Nat} (h : T.num i = some k) (h' : T.num j = some k) : i = j := by
  obtain ⟨_, e⟩ := num_get h
  obtain ⟨_, e'⟩ := num_get h'
  exact e.symm.trans e'
theorem num_at {T : Turns} (hn : T.at_.Nodup) {k : Nat} (hk : k < T.at_.length) : T.num T.at_[k] = some k := by
  unfold num
  rw [List.findIdx?_eq_some_iff_getElem]
  refine ⟨hk, by simp, fun j hj => ?_⟩
  have : j < T.at_.length := by omega
  intro he
  have he' : T.at_[j] = T.at_[k] := by simpa using he
  have h2 := List.pairwise_iff_getElem.1 hn j k this hk hj
  exact h2 he'
end Turns
section
variable (P : Program) (ops : Array Oper) (md : Region.Mode) (T : Turns) (G : Tmp → Option (RelT T.row)) (w0 : World)
def LeanT (i : Nat) (o : Oper) (a : Act) (w : World) : Prop :=
  (w0.grownBy w T.row ∧ ∀ d R, Operand.tmp d ∈ o.op.operands → G d = some R → a.eval (.tmp d) ≠ undef → R.rel (a.eval (.tmp d)) w) ∧ ∀ k, T.num i = some k → T.Z k w
def Eff (i : Nat) (w w' : World) : Prop := match T.num i with
  | none => Le w w'
  | some k => w.grownBy w' T.row ∧ T.Z (k + 1) w'
def givesUponT (i : Nat) (R : Value → World → Prop) (w : World) : Result Next → Prop
  | .ok (.value u) w' => Eff T i w w' ∧ R u w'
  | .ok .skip w' => Eff T i w w' ∧ R undef w'
  | .ok (.enter f args) w' => w' = w ∧ Calls P f args w (fun e w'' => ∃ v, e = .returned v ∧ Eff T i w w'' ∧ R v w'')
  | _ => False
def givesT (i : Nat) (o : Oper) (a : Act) (R : Value → World → Prop) (w : World) : Prop := givesUponT P T i R w ((execOp a.eval o).run P w)
def firmUponT (i : Nat) (v : Value) (w : World) : Result Next → Prop
  | .ok (.value u) w' => Eff T i w w' ∧ u = v
  | .ok .skip w' => Eff T i w w' ∧ v = undef
  | .ok (.enter f args) w' => w' = w ∧ P.inits.idxOf? f = none ∧ Calls P f args w (fun e w'' => e = .returned v ∧ Eff T i w w'')
  | _ => False
def firmAtT (i : Nat) (o : Oper) (a : Act) (v : Value) (w : World) : Prop := firmUponT P T i v w ((execOp a.eval o).run P w)
open Classical in
noncomputable def valOfT (i : Nat) (o : Oper) (a : Act) : Value := if h : ∃ v, ∀ w, LeanT T G w0 i o a w → firmAtT P T i o a v w then Classical.choose h else undef
noncomputable def relOfT (i : Nat) (o : Oper) (a : Act) : Value → World → Prop := match o.dst.bind G with
  | some R => R.rel
  | none => fun u _ => u = valOfT P T G w0 i o a
def InvT (listed : Array Bool) (a : Act) (w : World) : Prop :=
  w0.grownBy w T.row ∧ ∀ k o d R, ops[k]? = some o → listed.getD k false = true → o.dst = some d → G d = some R → a.eval (.tmp d) ≠ undef → R.rel (a.eval (.tmp d)) w
def Phase (listed : Array Bool) (p : Nat) : Prop := p ≤ T.at_.length ∧ ∀ i k, T.num i = some k → (listed.getD i false = true ↔ k < p)
structure TurnsOk : Prop where
  zmono : ∀ k w w', T.Z k w → Le w w' → T.Z k w'
  zall : ∀ k w, k ≤ T.at_.length → w0.grownBy w T.row → ∃ w', w.grownBy w' T.row ∧ T.Z k w'
  nodup : T.at_.Nodup
  chain : ∀ i k, T.num i = some (k + 1) → ∃ o, ops[i]? = some o ∧ ∃ e ∈ o.after, Region.binds md e = true ∧ T.num e.on = some k
structure FedT : Prop where
  fed : ∀ (i : Nat) (o : Oper) (d : Tmp), ops[i]? = some o → Operand.tmp d ∈ o.op.operands → (G d).isSome → ∃ (k : Nat) (ok : Oper), ops[k]? = some ok ∧ ok.dst = some d ∧ ∃ e ∈ o.after, Region.binds md e = true ∧ e.on = k
  one : ∀ (i j : Nat) (o p : Oper) (d : Tmp), ops[i]? = some o → ops[j]? = some p → o.dst = some d → p.dst = some d → i = j
variable {P ops md T G w0}
theorem Eff.grown {i : Nat} {w w' : World} (h : Eff T i w w') : w.grownBy w' T.row := by
  unfold Eff at h
  split at h
  · exact le_grown h _
  · exact h.1
theorem InvT.mono {listed : Array Bool} {a : Act} {w w' : World} (h : InvT ops T G w0 listed a w) (hl : w.grownBy w' T.row) : InvT ops T G w0 listed a w' :=
  ⟨h.1.trans hl, fun k o d R ho hk hd hR hu => R.mono _ _ _ hl (h.2 k o d R ho hk hd hR hu)⟩
theorem InvT.lean (hF : FedT ops md T G) {listed : Array Bool} {a : Act} {w : World} {i : Nat} {o : Oper} (hi : i ∈ Region.ready md ops listed) (ho : ops[i]? = some o) (h : InvT ops T G w0 listed a w) (hz : ∀ k, T.num i = some k → T.Z k w) : LeanT T G w0 i o a w := by
  refine ⟨⟨h.1, fun d R hd hR hu => ?_⟩, hz⟩
  obtain ⟨k, ok, hk, hkd, e, he, hb, rfl⟩ := hF.fed i o d ho hd (by rw [hR]; rfl)
  obtain ⟨_, o', ho', hall⟩ := mem_ready.1 hi
  rw [ho] at ho'
  injection ho' with ho'
  subst ho'
  exact h.2 e.on ok d R hk (hall e he hb) hkd hR hu
theorem InvT.put (hF : FedT ops md T G) {listed : Array Bool} {a : Act} {w : World} {i : Nat} {o : Oper} (ho : ops[i]? = some o) {u : Value} (h : InvT ops T G w0 listed a w)
    (hu : ∀ d R, o.dst = some d → G d = some R → u ≠ undef → R.rel u w) : InvT ops T G w0 (listed.setIfInBounds i true) (a.put o.dst u) w := by
  refine ⟨h.1, fun k p d R hk hl hd hR hne => ?_⟩
  by_cases hik : i = k
  · subst hik
    rw [ho] at hk
    injection hk with hk
    subst hk
    rw [hd] at hne ⊢
    rcases eval_put_self (a := a) (u := u) (d := d) with he | he
    · rw [he] at hne ⊢
      exact hu d R hd hR hne
    · exact absurd he hne
  · have hdd : o.dst ≠ some d := fun he => hik (hF.one i k o p d ho hk he hd)
    rw [eval_put_ne hdd] at hne ⊢
    rw [getD_set_ne false hik] at hl
    exact h.2 k p d R hk hl hd hR hne
theorem InvT.less (hF : FedT ops md T G) {listed : Array Bool} {a : Act} {w : World} {i : Nat} {o : Oper} (ho : ops[i]? = some o) (hun : listed.getD i true = false) {u : Value}
    (h : InvT ops T G w0 (listed.setIfInBounds i true) (a.put o.dst u) w) : InvT ops T G w0 listed a w := by
  refine ⟨h.1, fun k p d R hk hl hd hR hne => ?_⟩
  have hik : i ≠ k := by
    rintro rfl
    have : listed.getD i true = true := by
      rcases Nat.lt_or_ge i listed.size with h' | h'
      · simp [h'] at hl ⊢; exact hl
      · simp [Array.getElem?_eq_none h'] at hl
    rw [hun] at this
    cases this
  have hdd : o.dst ≠ some d := fun he => hik (hF.one i k o p d ho hk he hd)
  have := h.2 k p d R hk (by rw [getD_set_ne false hik]; exact hl) hd hR (by rw [eval_put_ne hdd]; exact hne)
  rwa [eval_put_ne hdd] at this
theorem InvT.comm {listed : Array Bool} {a : Act} {w : World} {i j : Nat} {x y : Option Tmp} {v u : Value} (hij : i ≠ j) (hxy : ∀ d, x = some d → y ≠ some d)
    (h : InvT ops T G w0 ((listed.setIfInBounds i true).setIfInBounds j true) ((a.put x v).put y u) w) : InvT ops T G w0 ((listed.setIfInBounds j true).setIfInBounds i true) ((a.put y u).put x v) w := by
  rwa [Array.setIfInBounds_comm _ _ hij, Act.put_comm a v u hxy] at h
theorem ready_phase (ok : TurnsOk ops md T w0) {listed : Array Bool} {i k p : Nat} (hi : i ∈ Region.ready md ops listed) (hk : T.num i = some k) (hp : Phase T listed p) : p = k := by
  obtain ⟨hun, o, ho, hall⟩ := mem_ready.1 hi
  have h1 : ¬ k < p := fun h => by
    have := (hp.2 i k hk).2 h
    rw [getD_both hun] at this
    cases this
  rcases Nat.lt_or_ge p k with h2 | h2
  · obtain ⟨k', rfl⟩ : ∃ k', k = k' + 1 := ⟨k - 1, by omega⟩
    obtain ⟨o', ho', e, he, hb, hon⟩ := ok.chain i k' hk
    rw [ho] at ho'
    injection ho' with ho'
    subst ho'
    have := (hp.2 e.on k' hon).1 (hall e he hb)
    omega
  · omega
theorem Phase.set_none {listed : Array Bool} {i p : Nat} (h : Phase T listed p) (hi : T.num i = none) : Phase T (listed.setIfInBounds i true) p :=
  ⟨h.1, fun j k hj => by
    have hij : i ≠ j := by rintro rfl; rw [hi] at hj; cases hj
    rw [getD_set_ne false hij]
    exact h.2 j k hj⟩
theorem Phase.set_turn {listed : Array Bool} {i k : Nat} (h : Phase T listed k) (hun : listed.getD i true = false) (hi : T.num i = some k) : Phase T (listed.setIfInBounds i true) (k + 1) := by
  obtain ⟨hk, _⟩ := Turns.num_get hi
  refine ⟨hk, fun j m hj => ?_⟩
  by_cases hij : i = j
  · subst hij
    have : m = k := by rw [hi] at hj; injection hj with e; exact e.symm
    subst this
    have hls : (listed.setIfInBounds i true).getD i false = true := by
      rcases Nat.lt_or_ge i listed.size with h' | h'
      · simp [h']
      · simp [Array.getElem?_eq_none h'] at hun
    rw [hls]
    simp
  · rw [getD_set_ne false hij, h.2 j m hj]
    have : m ≠ k := fun e => hij (Turns.num_inj hi (e ▸ hj))
    omega
theorem Phase.set (ok : TurnsOk ops md T w0) {listed : Array Bool} {i p : Nat} (h : Phase T listed p) (hi : i ∈ Region.ready md ops listed) : ∃ p', Phase T (listed.setIfInBounds i true) p' := by
  cases hk : T.num i with
  | none => exact ⟨p, h.set_none hk⟩
  | some k =>
    obtain rfl := ready_phase ok hi hk h
    exact ⟨p + 1, h.set_turn (mem_ready.1 hi).1 hk⟩
theorem Phase.one (ok : TurnsOk ops md T w0) {listed : Array Bool} {p q : Nat} (h : Phase T listed p) (h' : Phase T listed q) : p = q := by
  have key : ∀ p q, Phase T listed p → Phase T listed q → ¬ p < q := fun p q h h' hlt => by
    have hk : p < T.at_.length := Nat.lt_of_lt_of_le hlt h'.1
    have hn := Turns.num_at ok.nodup hk
    have h1 := (h'.2 _ _ hn).2 hlt
    have h2 := (h.2 _ _ hn).1 h1
    omega
  have := key p q h h'
  have := key q p h' h
  omega
theorem Alike.leanT {i : Nat} {o : Oper} {a a' : Act} (h : Alike ops o a a') {w : World} (hw : LeanT T G w0 i o a' w) : LeanT T G w0 i o a w :=
  ⟨⟨hw.1.1, fun d R hd hR hu => by
    have := hw.1.2 d R hd hR (by rw [h.eval d hd]; exact hu)
    rwa [h.eval d hd] at this⟩, hw.2⟩
theorem Alike.leanT_eq {i : Nat} {o : Oper} {a a' : Act} (h : Alike ops o a a') : LeanT T G w0 i o a' = LeanT T G w0 i o a := funext fun _ => propext ⟨fun hw => h.leanT hw, fun hw => h.symm.leanT hw⟩
theorem Alike.valT {i : Nat} {o : Oper} {a a' : Act} (h : Alike ops o a a') : valOfT P T G w0 i o a' = valOfT P T G w0 i o a := by
  unfold valOfT firmAtT
  rw [h.leanT_eq, h.exec]
theorem Alike.relT {i : Nat} {o : Oper} {a a' : Act} (h : Alike ops o a a') : relOfT P T G w0 i o a' = relOfT P T G w0 i o a := by
  unfold relOfT
  rw [h.valT]
theorem Alike.givesT {i : Nat} {o : Oper} {a a' : Act} (h : Alike ops o a a') {w : World} (hg : Go.Proofs.YtnhcjadkbogioaaGreat.givesT P T i o a' (relOfT P T G w0 i o a') w) : Go.Proofs.YtnhcjadkbogioaaGreat.givesT P T i o a (relOfT P T G w0 i o a) w := by
  unfold Go.Proofs.YtnhcjadkbogioaaGreat.givesT at *
  rwa [h.relT, h.exec] at hg
end
section
variable (P : Program) (ops : Array Oper) (md : Region.Mode) (T : Turns) (G : Tmp → Option (RelT T.row)) (w0 : World) (n : Nat) (L : Array Bool → Act → Prop)
end
section
variable {P : Program} {ops : Array Oper} {md : Region.Mode} {T : Turns} {G : Tmp → Option (RelT T.row)} {w0 : World} {n : Nat} {L : Array Bool → Act → Prop}
end
def wpT (P : Program) (ops : Array Oper) (T : Turns) (G : Tmp → Option (RelT T.row)) (w0 : World) (Qn : Act → World → Prop) : Nat → Nat → List Oper → Act → (World → Prop) → Prop
  | _, p, [], a, S => ∀ w, w0.grownBy w T.row → S w → T.Z p w → Qn a w
  | i, p, o :: rest, a, S => if Region.wanted o (yielded ops a.tmps) then
      match o.dst.bind G with
      | some R => T.num i = none ∧ (∀ w, LeanT T G w0 i o a w → givesT P T i o a R.rel w) ∧ ∀ u, (∃ w, w0.grownBy w T.row ∧ S w ∧ R.rel u w) → wpT P ops T G w0 Qn (i + 1) p rest (a.put o.dst u) (fun w => S w ∧ R.rel u w)
      | none => ∃ v, (∀ w, LeanT T G w0 i o a w → firmAtT P T i o a v w) ∧ ((T.num i = none ∧ wpT P ops T G w0 Qn (i + 1) p rest (a.put o.dst v) S) ∨ (T.num i = some p ∧ wpT P ops T G w0 Qn (i + 1) (p + 1) rest (a.put o.dst v) S))
    else T.num i = none ∧ wpT P ops T G w0 Qn (i + 1) p rest (a.put o.dst undef) S
section
variable {P : Program} {ops : Array Oper} {md : Region.Mode} {T : Turns} {G : Tmp → Option (RelT T.row)} {w0 : World} {n : Nat}
end
structure GW (w : World) (row : Option Nat) where
  val : World
  grown : w.grownBy val row
instance {w : World} {row : Option Nat} : Nonempty (GW w row) := ⟨⟨w, World.grownBy.refl _ _⟩⟩
section
variable {P : Program} {ops : Array Oper} {T : Turns} {G : Tmp → Option (RelT T.row)} {w0 : World} {Qn : Act → World → Prop} {o : Oper} {rest : List Oper} {a : Act} {S : World → Prop} {i p : Nat}
end
attribute [irreducible] wpT
end Go.Proofs.YtnhcjadkbogioaaGreat
namespace Go.Proofs.YtnhcjadkbogioaaGreat
open Go Go.RowKit OctM BitM
def fldsOut (must : Bool) (l : List UInt8) : List Int → List V3 → Nat → Int → List V3 × Nat × Int
  | [], f, a, e => (f, a, e)
  | i :: L, f, a, e => if (fldOut must l a e).2.2 = 0 then fldsOut must l L (f.set i.toNat (fldOut must l a e).1) (fldOut must l a e).2.1 (fldOut must l a e).2.2 else (f.set i.toNat (fldOut must l a e).1, (fldOut must l a e).2)
theorem fldsOut_at (must : Bool) (l : List UInt8) : ∀ (L : List Int) (f : List V3) (a : Nat) (e : Int), a ≤ l.length → (fldsOut must l L f a e).2.1 ≤ l.length
  | [], f, a, e, h => h
  | i :: L, f, a, e, h => by
    unfold fldsOut
    split
    · exact fldsOut_at must l L _ _ _ (fldOut_at _ _ _ _ h)
    · exact fldOut_at _ _ _ _ h
theorem fldsOut_len (must : Bool) (l : List UInt8) : ∀ (L : List Int) (f : List V3) (a : Nat) (e : Int), (fldsOut must l L f a e).1.length = f.length
  | [], f, a, e => rfl
  | i :: L, f, a, e => by
    unfold fldsOut
    split
    · rw [fldsOut_len must l L, List.length_set]
    · rw [List.length_set]
theorem fldsOut_go {must : Bool} {l : List UInt8} {L : List Int} {f : List V3} {a : Nat} {e : Int} (k : Nat) (hk : k < L.length) (h : ((fldOut must l a e).2.2 == 0) = true) :
    fldsOut must l (L.drop k) f a e = fldsOut must l (L.drop (k + 1)) (f.set L[k].toNat (fldOut must l a e).1) (fldOut must l a e).2.1 (fldOut must l a e).2.2 := by
  rw [List.drop_eq_getElem_cons hk]
  conv => lhs; unfold fldsOut
  rw [if_pos (by simpa using h)]
theorem fldsOut_stop {must : Bool} {l : List UInt8} {L : List Int} {f : List V3} {a : Nat} {e : Int} (k : Nat) (hk : k < L.length) (h : ((fldOut must l a e).2.2 == 0) = false) :
    fldsOut must l (L.drop k) f a e = (f.set L[k].toNat (fldOut must l a e).1, (fldOut must l a e).2) := by
  rw [List.drop_eq_getElem_cons hk]
  unfold fldsOut
  rw [if_neg (by simpa using h)]
theorem numOut_le (l : List UInt8) (a : Nat) (e m : Int) (h : 0 ≤ m) : ((numOut l a e m).1 : Int) ≤ m := by
  unfold numOut
  split
  · exact h
  · split
    · exact h
    · split
      · exact h
      · simp only; omega
theorem Rd.any {base g : Nat} {l : List UInt8} {a : Nat} {e : Int} {w w1 : World} (h : Rd w base g l a e) (hg : w.grownBy w1 (some g)) (a2 : Nat) (e2 : Int) : ∃ w', w1.grownBy w' (some g) ∧ Rd w' base g l a2 e2 := by
  have hlt := h.block.2
  obtain ⟨R2, G2⟩ := h.put_at a2
  obtain ⟨R3, G3⟩ := R2.put_err e2
  have G := G2.trans G3
  have hs : ((w.setCell ⟨g, 1, none⟩ (.int .i64 a2)).setCell ⟨g, 2, none⟩ (.int .i64 e2)).heap.size = w.heap.size := by simp [World.setCell]
  generalize ((w.setCell ⟨g, 1, none⟩ (.int .i64 a2)).setCell ⟨g, 2, none⟩ (.int .i64 e2)) = w3 at R3 G hs
  clear R2 G2 G3
  have h3 := R3.block.2
  have hg1 : g < w1.heap.size := Nat.lt_of_lt_of_le hlt hg.size
  have hl : Below w3.heap.size w3 { w1 with heap := w1.heap.setIfInBounds g w3.heap[g] } := by
    refine ⟨hg.os.trans G.os.symm, hg.tape.trans G.tape.symm, hg.output.trans G.output.symm, by simp [hs, hg.size], fun k hk => ?_⟩
    by_cases hkg : k = g
    · subst hkg
      simp [hg1, h3]
    · have e1 := hg.block k (by omega) (by simpa using hkg)
      have e2 := G.block k (by omega) (by simpa using hkg)
      simp only [Array.getElem?_setIfInBounds, if_neg (Ne.symm hkg)]
      rw [e1, e2]
  refine ⟨{ w1 with heap := w1.heap.setIfInBounds g w3.heap[g] }, ⟨rfl, rfl, rfl, by simp, fun k hk hr => ?_⟩, R3.later hl⟩
  have : g ≠ k := fun e => hr (by rw [e])
  simp only [Array.getElem?_setIfInBounds, if_neg this]
end Go.Proofs.YtnhcjadkbogioaaGreat
namespace Go.Proofs.YtnhcjadkbogioaaGreat
open Go Go.RowKit OctM
theorem Rr.off {w w' : World} {base g m : Nat} {l : List UInt8} {e : Int} (h : Rr w base g l e) (hg : w.grownBy w' (some m)) (hm : m ≠ g) : Rr w' base g l e :=
  Own.kept h hg (.inr (by simp [Value.ownBlock]; omega))
theorem rr_numd (base g : Nat) (l : List UInt8) (a : Nat) (e y : Int) (w : World) (h : Rr w base g (l.drop a) e) (hm : l.length ≤ 4000) :
    Calls Tryz.prog 22 #[.pointer (some ⟨g, 0, none⟩), .int .i64 y] w fun x w' => x = .returned (.int .i64 ((numOut l a e y).1 : Nat)) ∧ Rr w' base g (l.drop (numOut l a e y).2.1) (numOut l a e y).2.2 ∧ w.grownBy w' (some g) :=
  (rr_num base g (l.drop a) e y w h (by simp; omega)).mono fun x w' h => by
    rw [same_num] at h
    exact h
theorem rr_strd (base g : Nat) (l : List UInt8) (a : Nat) (e y : Int) (w : World) (h : Rr w base g (l.drop a) e) (ha : a ≤ l.length) (hm : l.length ≤ 4000) :
    Calls Tryz.prog 96 #[.pointer (some ⟨g, 0, none⟩), .int .i64 y] w fun x w' => x = .returned (.string (str (strOut l a e y).1)) ∧ Rr w' base g (l.drop (strOut l a e y).2.1) (strOut l a e y).2.2 ∧ w.grownBy w' (some g) :=
  (rr_str base g (l.drop a) e y w h (by simp; omega)).mono fun x w' h => by
    rw [same_str _ _ _ _ ha] at h
    exact h
end Go.Proofs.YtnhcjadkbogioaaGreat
