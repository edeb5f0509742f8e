/- Which patches may be, by the document; what is unlike in cards; what is within: what each returns. -/
import Derived.Test.YtjlpccdlpgkgoaaCardE
import Derived.Test.YtjlpccdlpgkgoaaSteady
namespace Go.Proofs.Ytjlpccdlpgkgoaa
set_option linter.unusedVariables false
open Go Go.RowKit BitM

section
variable {P : Program} {ops : Array Oper} {rest : List Oper} {op : Oper} {a : Act} {w : World} {Q : Exit → Act → World → Prop}
/-- A load of a whole struct, where its guard lets it. -/
theorem wpList_load_g (hw : Region.wanted op (yielded ops a.tmps) = true) (ty : TypeId) (x : Operand) (ho : op.op = .load ty x)
    (b o : Nat) (hx : a.eval x = .pointer (some ⟨b, o, none⟩)) (cs : List Value) (d : TypeDesc) (hc : w.rangeAt b o cs)
    (hu : P.underlying ty = some d) (hd : d.isRow = true) (hi : (P.info? ty).map (·.size) = some cs.length)
    (h : wpList P ops Q rest (a.put op.dst (.agg cs.toArray)) w) : wpList P ops Q (op :: rest) a w :=
  wpList_step fun K hK => by
    rw [if_pos hw]
    exact wp_load_mid ty x ho b o hx cs d hc hu hd hi (hK _ _ h)
theorem exec_load (ty : TypeId) (x : Operand) (ho : op.op = .load ty x) (b o : Nat) (hx : a.eval x = .pointer (some ⟨b, o, none⟩)) (cs : List Value) (d : TypeDesc) (hc : w.rangeAt b o cs)
    (hu : P.underlying ty = some d) (hd : d.isRow = true) (hi : (P.info? ty).map (·.size) = some cs.length) : (execOp a.eval op).run P w = .ok (.value (.agg cs.toArray)) w := by
  unfold execOp
  simp only [ho, hx, Instr.loadAt, Instr.sureAddr, Sem.run_bind, Sem.run_pure, Result.andThen_ok, run_loadVar_mid w b o ty cs d hc hu hd hi]
end

/-- Are the first k fields of a patch as they must be? -/
def fok (x : BitVec 32) (f : List V3) (k : Nat) : Bool := (List.range k).all fun i => vchk (f.getD i zv) && (decide ((f.getD i zv).1 = 0) || has x (i : Int))
theorem fok_succ (x : BitVec 32) (f : List V3) (k : Nat) : fok x f (k + 1) = (fok x f k && (vchk (f.getD k zv) && (decide ((f.getD k zv).1 = 0) || has x (k : Int)))) := by
  unfold fok
  rw [List.range_succ, List.all_append]
  simp
theorem fok_mono (x : BitVec 32) (f : List V3) {j k : Nat} (h : j ≤ k) (hf : fok x f j = false) : fok x f k = false := by
  induction k with
  | zero => obtain rfl : j = 0 := by omega
            exact hf
  | succ k ih =>
    by_cases e : j = k + 1
    · subst e; exact hf
    · rw [fok_succ, ih (by omega)]; rfl
/-- What is wrong with a patch. -/
def pchk (x : BitVec 32) (lab : Int) (f : List V3) : Int :=
  if 511 < x.toNat ∨ x.toNat = 0 then 11 else if 65536 ≤ lab ∨ (lab ≠ 0 ∧ has x 8 = false) then 1 else if fok x f 8 then 0 else 1

set_option maxRecDepth 100000 in
set_option maxHeartbeats 6400000 in
theorem rpcheck_any (x : BitVec 32) (lab : Int) (f : List V3) (w : World) (hf : f.length = 8) :
    Calls Try.prog 23 #[.agg (pcells (x.toNat : Int) lab f).toArray] w fun e w' => e = .returned (.int .i64 (pchk x lab f)) ∧ Below w.heap.size w w' := by
  have HF := Lib.hid hf
  clear hf
  have B0 := Blk.new w (pcells (x.toNat : Int) lab f) 34
  obtain ⟨pa, hpa⟩ : ∃ pa, pa = (pcells (x.toNat : Int) lab f).toArray := ⟨_, rfl⟩
  rw [← hpa] at B0 ⊢
  have hw0 := (Below.refl w.heap.size w).alloc (Nat.le_refl _) (.cells pa 34)
  have HB := Lib.hid hw0
  obtain ⟨p0, p1⟩ := B0.patch
  have HM := Lib.hid (rmcheck_any x (w.alloc (.cells pa 34)))
  obtain ⟨R, hR⟩ : ∃ R, R = pchk x lab f := ⟨_, rfl⟩
  rw [← hR]
  have HR := Lib.hid hR
  clear hR hw0 hpa
  by_cases h1 : x.toNat ≤ 511
  · rw [decide_eq_true h1] at HM
    by_cases h2 : x.toNat = 0
    · have b2 : ((x.toNat : Int) == 0) = true := by rw [h2]; rfl
      have hRR : R = 11 := by rw [HR.out]; unfold pchk; rw [if_pos (.inr h2)]
      have HRR := Lib.hid hRR
      clear hRR h2 h1
      go_enter Try.func23, Try.ntmps23
      go_wp2_with fail
      refine HM.out.mono ?_
      rintro e w' ⟨rfl, rfl⟩
      go_wp2_with fail
      go_ret
      exact ⟨by rw [HRR.out]; rfl, HB.out⟩
    · have b2 : ((x.toNat : Int) == 0) = false := by rw [beq_eq_false_iff_ne]; omega
      have hn : ¬ (511 < x.toNat ∨ x.toNat = 0) := by omega
      by_cases h3 : 65536 ≤ lab
      · have d3 : decide (65536 ≤ lab) = true := by simpa using h3
        have HRR : Hid (R = 1) := Lib.hid (by rw [HR.out]; unfold pchk; rw [if_neg hn, if_pos (.inl h3)])
        clear h1 h2 h3 hn
        go_enter Try.func23, Try.ntmps23
        go_wp2_with fail
        refine HM.out.mono ?_
        rintro e w' ⟨rfl, rfl⟩
        go_wp2_with fail
        go_ret
        exact ⟨by rw [HRR.out]; rfl, HB.out⟩
      · have d3 : decide (65536 ≤ lab) = false := by simpa using h3
        have HL := Lib.hid (rlabels_any x (w.alloc (.cells pa 34)))
        by_cases h4 : lab = 0
        · have b4 : (lab != 0) = false := by simpa using h4
          have hRR : R = if fok x f 8 then 0 else 1 := by rw [HR.out]; unfold pchk; rw [if_neg hn, if_neg (by omega)]
          have RES : fok x f 8 = false → R = 1 := fun h => by rw [hRR, h]; rfl
          have RES0 : fok x f 8 = true → R = 0 := fun h => by rw [hRR, h]; rfl
          have HRES := Lib.hid RES
          have HRES0 := Lib.hid RES0
          clear h1 h2 h3 h4 hn hRR RES RES0
          go_enter Try.func23, Try.ntmps23
          go_wp2_with fail
          refine HM.out.mono ?_
          rintro e w' ⟨rfl, rfl⟩
          go_wp2_with fail
          go_loopw [3] (fun i wr => ∃ k : Nat, k ≤ 8 ∧ i = .int .i64 k ∧ Blk wr w.heap.size (pcells (x.toNat : Int) lab f) ∧ Hid (fok x f k = true) ∧ Below w.heap.size w wr) (fun i _ => 8 - (intOf i).toNat)
          case atStart => exact ⟨0, by omega, rfl, B0, Lib.hid rfl, HB.out⟩
          case round =>
            obtain ⟨k, hk, rfl, D0, HK, hbr⟩ := hrel
            clear p0 p1 B0 HB
            by_cases hlt : k < 8
            · have hkf : k < f.length := by rw [HF.out]; exact hlt
              obtain ⟨l0, l1, l2⟩ := Blk.field (o := 2) D0 k rfl hkf
              obtain ⟨p0, p1⟩ := D0.patch
              have d8 : (k : Int) < 8 := by omega
              have HS := Lib.hid (fok_succ x f k)
              obtain ⟨⟨v0, v1, v2⟩, hv⟩ : ∃ v, v = f[k] := ⟨_, rfl⟩
              have hg : f.getD k zv = (v0, v1, v2) := by rw [hv]; simp [List.getD, hkf]
              have HG := Lib.hid hg
              rw [← hv] at l0 l1 l2
              simp only at l0 l1 l2
              have HC := Lib.hid (fun wx : World => rvcheck_any v0 v1 v2 wx)
              have HV := Lib.hid hv
              clear hv hg
              cases hc : vchk (v0, v1, v2) with
              | false =>
                rw [hc] at HC
                have HCC := Lib.hid hc
                clear hc
                go_wp2_with fail
                refine (HC.out _).mono ?_
                rintro e w1 ⟨rfl, hb⟩
                have hbw := hbr.trans (hb.mono hbr.size)
                go_wp2_with fail
                go_ret
                refine ⟨?_, hbw⟩
                have hfin : R = 1 := HRES.out (fok_mono x f (j := k + 1) (by omega) (by rw [HS.out, HG.out, HCC.out]; simp))
                rw [hfin]
                rfl
              | true =>
                rw [hc] at HC
                have HCC := Lib.hid hc
                clear hc
                by_cases hz : v0 = 0
                · have bz : (v0 != 0) = false := by simpa using hz
                  have HZ := Lib.hid hz
                  clear hz
                  go_wp2_with fail
                  refine (HC.out _).mono ?_
                  rintro e w1 ⟨rfl, hb⟩
                  have hbw := hbr.trans (hb.mono hbr.size)
                  have D1 := D0.later hb
                  obtain ⟨m0, m1, m2⟩ := Blk.field (o := 2) D1 k rfl hkf
                  rw [← HV.out] at m0
                  simp only at m0
                  clear m1 m2
                  clear D0 l0 l1 l2 p0 p1
                  go_wp2_with fail
                  go_roundw
                  case rel => exact ⟨k + 1, by omega, by go_num, D1, Lib.hid (by rw [HS.out, HK.out, HG.out, HCC.out]; simp [HZ.out]), hbw⟩
                  case measure => simp [intOf]; omega
                · have bz : (v0 != 0) = true := by simpa using hz
                  have HZ := Lib.hid hz
                  clear hz
                  cases hh : has x (k : Int) with
                  | true =>
                    have HHX := Lib.hid hh
                    have HX := Lib.hid (fun wx : World => rhas_any x (k : Int) wx)
                    rw [hh] at HX
                    clear hh
                    go_wp2_with fail
                    refine (HC.out _).mono ?_
                    rintro e w1 ⟨rfl, hb⟩
                    have hbw := hbr.trans (hb.mono hbr.size)
                    have D1 := D0.later hb
                    obtain ⟨m0, m1, m2⟩ := Blk.field (o := 2) D1 k rfl hkf
                    obtain ⟨r0, r1⟩ := D1.patch
                    rw [← HV.out] at m0
                    simp only at m0
                    clear m1 m2
                    clear D0 l0 l1 l2 p0 p1
                    go_wp2_with fail
                    refine (HX.out _).mono ?_
                    rintro e w2 ⟨rfl, rfl⟩
                    go_wp2_with fail
                    go_roundw
                    case rel => exact ⟨k + 1, by omega, by go_num, D1, Lib.hid (by rw [HS.out, HK.out, HG.out, HCC.out, HHX.out]; simp), hbw⟩
                    case measure => simp [intOf]; omega
                  | false =>
                    have HHX := Lib.hid hh
                    have HX := Lib.hid (fun wx : World => rhas_any x (k : Int) wx)
                    rw [hh] at HX
                    clear hh
                    go_wp2_with fail
                    refine (HC.out _).mono ?_
                    rintro e w1 ⟨rfl, hb⟩
                    have hbw := hbr.trans (hb.mono hbr.size)
                    have D1 := D0.later hb
                    obtain ⟨m0, m1, m2⟩ := Blk.field (o := 2) D1 k rfl hkf
                    obtain ⟨r0, r1⟩ := D1.patch
                    rw [← HV.out] at m0
                    simp only at m0
                    clear m1 m2
                    clear D0 l0 l1 l2 p0 p1
                    go_wp2_with fail
                    refine (HX.out _).mono ?_
                    rintro e w2 ⟨rfl, rfl⟩
                    go_wp2_with fail
                    go_ret
                    refine ⟨?_, hbw⟩
                    have hfin : R = 1 := HRES.out (fok_mono x f (j := k + 1) (by omega) (by rw [HS.out, HK.out, HG.out, HCC.out, HHX.out]; simp [HZ.out]))
                    rw [hfin]
                    rfl
            · obtain rfl : k = 8 := by omega
              go_wp2_with fail
              go_ret
              exact ⟨by rw [HRES0.out HK.out]; rfl, hbr⟩
        · have b4 : (lab != 0) = true := by simpa using h4
          cases h8 : has x 8 with
          | false =>
            rw [h8] at HL
            have HRR : Hid (R = 1) := Lib.hid (by rw [HR.out]; unfold pchk; rw [if_neg hn, if_pos (.inr ⟨h4, h8⟩)])
            clear h1 h2 h3 h4 hn h8
            go_enter Try.func23, Try.ntmps23
            go_wp2_with fail
            refine HM.out.mono ?_
            rintro e w' ⟨rfl, rfl⟩
            go_wp2_with fail
            refine HL.out.mono ?_
            rintro e w' ⟨rfl, rfl⟩
            go_wp2_with fail
            go_ret
            exact ⟨by rw [HRR.out]; rfl, HB.out⟩
          | true =>
            rw [h8] at HL
            have hRR : R = if fok x f 8 then 0 else 1 := by rw [HR.out]; unfold pchk; rw [if_neg hn, if_neg (by simp [h8]; omega)]
            have RES : fok x f 8 = false → R = 1 := fun h => by rw [hRR, h]; rfl
            have RES0 : fok x f 8 = true → R = 0 := fun h => by rw [hRR, h]; rfl
            have HRES := Lib.hid RES
            have HRES0 := Lib.hid RES0
            clear h1 h2 h3 h4 hn h8 hRR RES RES0
            go_enter Try.func23, Try.ntmps23
            go_wp2_with fail
            refine HM.out.mono ?_
            rintro e w' ⟨rfl, rfl⟩
            go_wp2_with fail
            refine HL.out.mono ?_
            rintro e w' ⟨rfl, rfl⟩
            go_wp2_with fail
            go_loopw [3] (fun i wr => ∃ k : Nat, k ≤ 8 ∧ i = .int .i64 k ∧ Blk wr w.heap.size (pcells (x.toNat : Int) lab f) ∧ Hid (fok x f k = true) ∧ Below w.heap.size w wr) (fun i _ => 8 - (intOf i).toNat)
            case atStart => exact ⟨0, by omega, rfl, B0, Lib.hid rfl, HB.out⟩
            case round =>
              obtain ⟨k, hk, rfl, D0, HK, hbr⟩ := hrel
              clear p0 p1 B0 HB
              by_cases hlt : k < 8
              · have hkf : k < f.length := by rw [HF.out]; exact hlt
                obtain ⟨l0, l1, l2⟩ := Blk.field (o := 2) D0 k rfl hkf
                obtain ⟨p0, p1⟩ := D0.patch
                have d8 : (k : Int) < 8 := by omega
                have HS := Lib.hid (fok_succ x f k)
                obtain ⟨⟨v0, v1, v2⟩, hv⟩ : ∃ v, v = f[k] := ⟨_, rfl⟩
                have hg : f.getD k zv = (v0, v1, v2) := by rw [hv]; simp [List.getD, hkf]
                have HG := Lib.hid hg
                rw [← hv] at l0 l1 l2
                simp only at l0 l1 l2
                have HC := Lib.hid (fun wx : World => rvcheck_any v0 v1 v2 wx)
                have HV := Lib.hid hv
                clear hv hg
                cases hc : vchk (v0, v1, v2) with
                | false =>
                  rw [hc] at HC
                  have HCC := Lib.hid hc
                  clear hc
                  go_wp2_with fail
                  refine (HC.out _).mono ?_
                  rintro e w1 ⟨rfl, hb⟩
                  have hbw := hbr.trans (hb.mono hbr.size)
                  go_wp2_with fail
                  go_ret
                  refine ⟨?_, hbw⟩
                  have hfin : R = 1 := HRES.out (fok_mono x f (j := k + 1) (by omega) (by rw [HS.out, HG.out, HCC.out]; simp))
                  rw [hfin]
                  rfl
                | true =>
                  rw [hc] at HC
                  have HCC := Lib.hid hc
                  clear hc
                  by_cases hz : v0 = 0
                  · have bz : (v0 != 0) = false := by simpa using hz
                    have HZ := Lib.hid hz
                    clear hz
                    go_wp2_with fail
                    refine (HC.out _).mono ?_
                    rintro e w1 ⟨rfl, hb⟩
                    have hbw := hbr.trans (hb.mono hbr.size)
                    have D1 := D0.later hb
                    obtain ⟨m0, m1, m2⟩ := Blk.field (o := 2) D1 k rfl hkf
                    rw [← HV.out] at m0
                    simp only at m0
                    clear m1 m2
                    clear D0 l0 l1 l2 p0 p1
                    go_wp2_with fail
                    go_roundw
                    case rel => exact ⟨k + 1, by omega, by go_num, D1, Lib.hid (by rw [HS.out, HK.out, HG.out, HCC.out]; simp [HZ.out]), hbw⟩
                    case measure => simp [intOf]; omega
                  · have bz : (v0 != 0) = true := by simpa using hz
                    have HZ := Lib.hid hz
                    clear hz
                    cases hh : has x (k : Int) with
                    | true =>
                      have HHX := Lib.hid hh
                      have HX := Lib.hid (fun wx : World => rhas_any x (k : Int) wx)
                      rw [hh] at HX
                      clear hh
                      go_wp2_with fail
                      refine (HC.out _).mono ?_
                      rintro e w1 ⟨rfl, hb⟩
                      have hbw := hbr.trans (hb.mono hbr.size)
                      have D1 := D0.later hb
                      obtain ⟨m0, m1, m2⟩ := Blk.field (o := 2) D1 k rfl hkf
                      obtain ⟨r0, r1⟩ := D1.patch
                      rw [← HV.out] at m0
                      simp only at m0
                      clear m1 m2
                      clear D0 l0 l1 l2 p0 p1
                      go_wp2_with fail
                      refine (HX.out _).mono ?_
                      rintro e w2 ⟨rfl, rfl⟩
                      go_wp2_with fail
                      go_roundw
                      case rel => exact ⟨k + 1, by omega, by go_num, D1, Lib.hid (by rw [HS.out, HK.out, HG.out, HCC.out, HHX.out]; simp), hbw⟩
                      case measure => simp [intOf]; omega
                    | false =>
                      have HHX := Lib.hid hh
                      have HX := Lib.hid (fun wx : World => rhas_any x (k : Int) wx)
                      rw [hh] at HX
                      clear hh
                      go_wp2_with fail
                      refine (HC.out _).mono ?_
                      rintro e w1 ⟨rfl, hb⟩
                      have hbw := hbr.trans (hb.mono hbr.size)
                      have D1 := D0.later hb
                      obtain ⟨m0, m1, m2⟩ := Blk.field (o := 2) D1 k rfl hkf
                      obtain ⟨r0, r1⟩ := D1.patch
                      rw [← HV.out] at m0
                      simp only at m0
                      clear m1 m2
                      clear D0 l0 l1 l2 p0 p1
                      go_wp2_with fail
                      refine (HX.out _).mono ?_
                      rintro e w2 ⟨rfl, rfl⟩
                      go_wp2_with fail
                      go_ret
                      refine ⟨?_, hbw⟩
                      have hfin : R = 1 := HRES.out (fok_mono x f (j := k + 1) (by omega) (by rw [HS.out, HK.out, HG.out, HCC.out, HHX.out]; simp [HZ.out]))
                      rw [hfin]
                      rfl
              · obtain rfl : k = 8 := by omega
                go_wp2_with fail
                go_ret
                exact ⟨by rw [HRES0.out HK.out]; rfl, hbr⟩
  · rw [decide_eq_false h1] at HM
    have HRR : Hid (R = 11) := Lib.hid (by rw [HR.out]; unfold pchk; rw [if_pos (.inl (by omega))])
    clear h1
    go_enter Try.func23, Try.ntmps23
    go_wp2_with fail
    refine HM.out.mono ?_
    rintro e w' ⟨rfl, rfl⟩
    go_wp2_with fail
    go_ret
    exact ⟨by rw [HRR.out]; rfl, HB.out⟩
end Go.Proofs.Ytjlpccdlpgkgoaa
