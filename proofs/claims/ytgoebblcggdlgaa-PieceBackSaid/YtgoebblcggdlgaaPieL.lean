/- Pieces: the document's Cut: what it returns. -/
import Derived.Test.YtgoebblcggdlgaaPieK
namespace Go.Proofs.Ytgoebblcggdlgaa
set_option linter.unusedVariables false
set_option linter.unusedSimpArgs false
open Go Go.RowKit OctM SumM

theorem exec_sub {a : Act} {o : Oper} (x y z : Tmp) (ho : o.op = .slice 9 (.tmp x) (some (.tmp y)) (some (.tmp z)) none) (s sb : ByteArray) (i j : Int) (h0 : 0 ≤ i) (hij : i ≤ j) (hj : j ≤ s.size) (hs : s.extract i.toNat j.toNat = sb)
    (hx : a.eval (.tmp x) = .string s) (hy : a.eval (.tmp y) = .int .i64 i) (hz : a.eval (.tmp z) = .int .i64 j) (w : World) : (execOp a.eval o).run Try.prog w = .ok (.value (.string sb)) w := by
  have h2 := run_slice_string (P := Try.prog) (w := w) 9 s .i64 .i64 i j Try.underlying9 h0 hij hj
  unfold execOp
  simp only [ho, Option.map_some, Option.map_none, Act.eval, Sem.run_bind, Sem.run_pure, Result.andThen_ok]
  rw [show a.tmps.getD x undef = Value.string s from hx, show a.tmps.getD y undef = Value.int .i64 i from hy, show a.tmps.getD z undef = Value.int .i64 j from hz, run_sliceAt_string (h := Try.underlying9), h2, hs]
  rfl
theorem chk_str (r : List UInt8) (k h : Nat) (hh : h = min r.length (52 * (k + 1))) : (str r).extract ((k : Int) * 52).toNat ((h : Int)).toNat = str (chk r k) := by
  rw [show ((k : Int) * 52).toNat = 52 * k by omega, Int.toNat_natCast]
  unfold chk str
  apply ByteArray.ext
  apply Array.ext'
  simp only [ByteArray.data_extract, Array.toList_extract, List.extract_eq_take_drop]
  by_cases h5 : 52 * (k + 1) ≤ r.length
  · rw [show h - 52 * k = 52 by omega]
  · rw [List.take_of_length_le (by simp only [List.length_drop]; omega), List.take_of_length_le (by simp only [List.length_drop]; omega)]
/-- What a check says at a place. -/
theorem pok_at {a b : Int} {r : List UInt8} {k : Nat} : pok (pcAt a b r k) = decide (1 ≤ a ∧ a < 4294967296 ∧ 0 ≤ b + (k : Int) ∧ b + (k : Int) < 1099511627776) := by
  unfold pok pcAt
  have := chk_len r k
  rw [Bool.eq_iff_iff, decide_eq_true_eq, decide_eq_true_eq]
  dsimp only
  omega
/-- A slice of one struct, built. -/
theorem wpList_lit1 {P : Program} {ops : Array Oper} {rest : List Oper} {o : Oper} {a : Act} {w : World} {Q : Exit → Act → World → Prop} (hgd : o.guard = none) (t e : TypeId) (x : Operand)
    (ho : o.op = .buildSlice t 1 #[(0, x)]) (v : Value) (cs : Array Value) (hx : a.eval x = v) (hr : (Instr.buildSlice t 1 #[(0, v)]).run P w = .ok (.slice (some ⟨w.heap.size, 0, none⟩) 1 1) (w.alloc (.cells cs e)))
    (h : wpList P ops Q rest (a.put o.dst (.slice (some ⟨w.heap.size, 0, none⟩) 1 1)) (w.alloc (.cells cs e))) : wpList P ops Q (o :: rest) a w :=
  wpList_plain hgd fun _ hK => by
    unfold Oper.wp execOp
    simp only [ho, List.map_toArray, List.map_cons, List.map_nil, hx, Sem.run_bind, hr, Result.andThen_ok, Sem.run_pure]
    exact hK _ _ h
theorem five_form {pc : List Value} (h : pc.length = 5) : ∃ a b c d e, pc = [a, b, c, d, e] := by
  match pc, h with
  | [a, b, c, d, e], _ => exact ⟨a, b, c, d, e, rfl⟩
theorem run_rp1 (pc : List Value) (h : pc.length = 5) (w : World) : (Instr.buildSlice 39 1 #[(0, .agg pc.toArray)]).run Try.prog w = .ok (.slice (some ⟨w.heap.size, 0, none⟩) 1 1) (w.alloc (.cells pc.toArray 23)) := by
  obtain ⟨a, b, c, d, e, rfl⟩ := five_form h
  kernel_rfl
theorem run_p1 (pc : List Value) (h : pc.length = 5) (w : World) : (Instr.buildSlice 42 1 #[(0, .agg pc.toArray)]).run Try.prog w = .ok (.slice (some ⟨w.heap.size, 0, none⟩) 1 1) (w.alloc (.cells pc.toArray 25)) := by
  obtain ⟨a, b, c, d, e, rfl⟩ := five_form h
  kernel_rfl

set_option maxRecDepth 100000 in
set_option maxHeartbeats 6400000 in
theorem rcut_any (a b : Int) (r : List UInt8) (w : World) (hr : r.length ≤ 65536) :
    Calls Try.prog 23 #[.int .i64 a, .int .i64 b, .string (str r)] w fun e w' => ∃ A c, e = .returned (.slice A (cutL a b r).length c) ∧
      w'.ownsRow w.heap.size 23 5 (.slice A (cutL a b r).length c) (cutL a b r).length (rws pcel (cutL a b r)) ∧ Below w.heap.size w w' := by
  have hz := str_size r
  have hu := Try.underlying23
  obtain ⟨i1, ji, jz0, jz1, jz2⟩ := info_rpied
  obtain ⟨n, hn⟩ : ∃ n, n = r.length := ⟨_, rfl⟩
  have HM : Hid (∀ wx, Calls Try.prog 16 #[.int .i64 (n : Int)] wx fun e w' => e = .returned (.int .i64 (mn n : Int)) ∧ wx = w') := Lib.hid (fun wx => by
    rw [← many_mn]
    exact rmany_any _ (by omega) wx)
  obtain ⟨m, hm⟩ : ∃ m, m = mn n := ⟨_, rfl⟩
  have hm0 : 0 < m := by rw [hm]; exact mn_pos n
  have hmn : m ≤ n + 1 := by rw [hm]; exact mn_le n
  have HMN : Hid (mn r.length = m) := Lib.hid (by rw [hm, hn])
  have HCL : Hid (cutL a b r = if 1 ≤ a ∧ a ≤ 4294967295 ∧ 0 ≤ b ∧ b + (m : Int) ≤ 1099511627776 then cutU a b r m else []) := Lib.hid (by unfold cutL; rw [HMN.out])
  have HCUT : Hid (∀ k, k < m → 52 * k ≤ n ∧ (k + 1 < m → 52 * (k + 1) < n) ∧ (k + 1 = m → n ≤ 52 * (k + 1))) := Lib.hid (fun k hk => by rw [hm] at *; exact mn_cut hk)
  rw [← hm] at HM
  rw [← hn] at hz hr
  have HN := Lib.hid hn
  obtain ⟨sr, hsr⟩ : ∃ sr, sr = str r := ⟨_, rfl⟩
  rw [← hsr] at hz ⊢
  have HSR := Lib.hid hsr
  clear hsr hn hm
  by_cases hb0 : 0 ≤ b
  · have d0 : decide (b < 0) = false := decide_eq_false (by omega)
    by_cases hbm : b ≤ 1099511627776
    · have d1 : decide ((1099511627776 : Int) < b) = false := decide_eq_false (by omega)
      go_enter Try.func23, Try.ntmps23
      go_wp2_with fail
      refine (HM.out _).mono ?_
      rintro e wx ⟨rfl, rfl⟩
      have HROW0 := Lib.hid (row_lit w w.heap.size 23 5 0 #[] (Nat.le_refl _) (by simp [maxLen]) rfl)
      have HB0 := Lib.hid ((Below.refl w.heap.size w).alloc (Nat.le_refl _) (.cells #[] 23))
      go_wp2_with fail
      go_loopw [7, 9] (fun v i wr => ∃ k : Nat, k ≤ m ∧ i = .int .i64 (k : Int) ∧ (∃ A1 c1, v = .slice A1 k c1 ∧ Hid (wr.ownsRow w.heap.size 23 5 v k (rws pcel (cutU a b r k)))) ∧ Hid (0 < k → 1 ≤ a ∧ a < 4294967296 ∧ b + (k : Int) ≤ 1099511627776) ∧ Hid (Below w.heap.size w wr)) (fun _ i _ => m - (intOf i).toNat)
      case atStart => exact ⟨0, by omega, rfl, ⟨_, _, rfl, HROW0⟩, Lib.hid (fun h => absurd h (by omega)), HB0⟩
      case round =>
        clear HROW0 HB0
        obtain ⟨k, hk, rfl, ⟨A1, c1, rfl, HR⟩, HOK, HBR⟩ := hrel
        by_cases hlt : k < m
        · have dk : decide ((k : Int) < (m : Int)) = true := decide_eq_true (by omega)
          obtain ⟨hc1, hc2, hc3⟩ := HCUT.out k hlt
          obtain ⟨h, hh⟩ : ∃ h, h = min n (52 * (k + 1)) := ⟨_, rfl⟩
          have hmin : min (n : Int) (((k : Int) + 1) * 52) = (h : Int) := by omega
          have HH : Hid (52 * k ≤ h ∧ h ≤ n) := Lib.hid (by omega)
          have HSB : Hid (sr.extract ((k : Int) * 52).toNat ((h : Int)).toNat = str (chk r k)) := Lib.hid (by rw [HSR.out]; exact chk_str r k h (by rw [hh, HN.out]))
          obtain ⟨f0, hf0⟩ : ∃ f0, f0 = decide (k = 0) := ⟨_, rfl⟩
          obtain ⟨f1, hf1⟩ : ∃ f1, f1 = decide (k + 1 = m) := ⟨_, rfl⟩
          have HKR := Lib.hid (fun wx => rcheck_any (pcAt a b r k) wx (by show (chk r k).length ≤ 4096; rw [chk_len]; omega))
          obtain ⟨ok, hok⟩ : ∃ ok, ok = pok (pcAt a b r k) := ⟨_, rfl⟩
          rw [← hok] at HKR
          have HOKK : Hid (ok = decide (1 ≤ a ∧ a < 4294967296 ∧ 0 ≤ b + (k : Int) ∧ b + (k : Int) < 1099511627776)) := Lib.hid (by rw [hok]; exact pok_at)
          have ONE := pcel_one (pcAt a b r k)
          have HLEN : Hid ((pcel (pcAt a b r k)).length = 5) := Lib.hid rfl
          obtain ⟨sb, hsb⟩ : ∃ sb, sb = str (chk r k) := ⟨_, rfl⟩
          have HPC0 : Hid (pcel (pcAt a b r k) = [.int .i64 a, .int .i64 (b + (k : Int)), .bool f0, .bool f1, .string sb]) := Lib.hid (by unfold pcel pcAt; dsimp only; rw [hf0, hf1, hsb, HMN.out])
          obtain ⟨pc, hpc⟩ : ∃ pc, pc = pcel (pcAt a b r k) := ⟨_, rfl⟩
          have HSN : Hid (rws pcel (cutU a b r (k + 1)) = rws pcel (cutU a b r k) ++ pc) := Lib.hid (by rw [cutU_snoc, rws_append, rws_one, hpc])
          rw [← hpc] at HKR ONE HLEN HPC0
          rw [← hsb] at HSB
          have k0 : ((k : Int) == 0) = f0 := by rw [hf0, Bool.eq_iff_iff]; simp
          have k1 : ((k : Int) == (m : Int) - 1) = f1 := by rw [hf1, Bool.eq_iff_iff]; simp; omega
          have hbs := HBR.out.size
          obtain ⟨TH1, F1, g1, z1⟩ := new_put w.heap.size wr [.int .i64 a, .int .i64 (b + (k : Int)), .bool f0, .bool f1, .string { data := #[] }] [.int .i64 0, .int .i64 0, .bool false, .bool false, .string { data := #[] }] 23 rfl hbs
          have ON1 : (#[Value.int .i64 a, .int .i64 (b + (k : Int)), .bool f0, .bool f1, .string { data := #[] }]).all (·.oneCell') = true := all_oneCell_toArray (pcel_one (a, b + (k : Int), f0, f1, []))
          have F1 := Lib.hid F1
          have G1 := Lib.hid g1
          have HBG : Hid (Below w.heap.size w (((wr.alloc (.cells #[.int .i64 0, .int .i64 0, .bool false, .bool false, .string { data := #[] }] 23)).setCells wr.heap.size 0 [.int .i64 a, .int .i64 (b + (k : Int)), .bool f0, .bool f1, .string { data := #[] }]))) := Lib.hid (HBR.out.trans (g1.mono hbs))
          clear hf0 hf1 hsb hpc hok hh hc1 hc2 hc3 g1 z1
          go_wp2_with (first
            | (refine wpList_store_mid rfl 23 (.tmp 10) (.tmp 36) rfl wr.heap.size 0 #[.int .i64 a, .int .i64 (b + (k : Int)), .bool f0, .bool f1, .string { data := #[] }] rfl rfl TH1 info_rpie ON1 ?_
               simp only [Act.put]
               generalize hw2 : World.setCells _ wr.heap.size 0 (Array.toList _) = w2
               have F2 : Blk w2 wr.heap.size [.int .i64 a, .int .i64 (b + (k : Int)), .bool f0, .bool f1, .string { data := #[] }] := by rw [← hw2]; exact F1.out
               have L2 : Le wr w2 := by rw [← hw2]; exact G1.out
               have B2 : Below w.heap.size w w2 := by rw [← hw2]; exact HBG.out
               have f4 := F2.frozen 4
               have q4 := F2.cell (j := 4) (v := .string { data := #[] }) rfl
               have S4 := F2.set 4 (.string sb)
               rw [show [Value.int .i64 a, .int .i64 (b + (k : Int)), .bool f0, .bool f1, .string { data := #[] }].set 4 (.string sb) = pc from by rw [HPC0.out]; rfl] at S4
               have RG := S4.range 0 pc (by rw [List.drop_zero, List.take_length])
               have S4 := Lib.hid S4
               have B3 := Lib.hid (B2.setCell (p := ⟨wr.heap.size, 4, none⟩) hbs (.string sb))
               have L3 : Hid (Le wr (w2.setCell ⟨wr.heap.size, 4, none⟩ (.string sb))) := Lib.hid (L2.setCell (p := ⟨wr.heap.size, 4, none⟩) (Nat.le_refl _) (.string sb))
               clear hw2 TH1 F1 G1 HBG F2 L2 B2 ON1)
            | (refine wpList_exec (by rfl) (.string sb) (exec_sub 37 39 45 rfl sr sb ((k : Int) * 52) (h : Int) (by omega) (by have := HH.out; omega) (by have := HH.out; omega) HSB.out rfl rfl rfl _) ?_)
            | (refine wpList_load_mid rfl 23 (.tmp 10) rfl wr.heap.size 0 rfl pc _ RG hu rfl (by rw [HLEN.out]; exact info_rpie) ?_)
            | fail)
          have S3 := S4.out
          have HRW := Lib.hid (row_later HR.out L3.out)
          generalize w2.setCell ⟨wr.heap.size, 4, none⟩ (.string sb) = w3 at S3 B3 L3 HRW ⊢
          refine (HKR.out _).mono ?_
          rintro e w4 ⟨rfl, h4⟩
          have R4 := (S3.later h4).range 0 pc (by rw [List.drop_zero, List.take_length])
          have HB4 := Lib.hid (B3.out.trans (h4.mono B3.out.size))
          have HR4 := Lib.hid (World.ownsRow.alloc (row_later HRW.out h4) (.cells pc.toArray 23))
          clear S3 S4 h4 B3 L3 HRW RG
          cases ok with
          | true =>
            have HOK2 : Hid (1 ≤ a ∧ a < 4294967296 ∧ 0 ≤ b + (k : Int) ∧ b + (k : Int) < 1099511627776) := Lib.hid (of_decide_eq_true HOKK.out.symm)
            go_wp2_with (first
              | (refine wpList_load_mid rfl 23 (.tmp 10) rfl wr.heap.size 0 rfl pc _ R4 hu rfl (by rw [HLEN.out]; exact info_rpie) ?_)
              | (refine wpList_lit1 rfl 39 23 (.tmp 52) rfl (.agg pc.toArray) pc.toArray rfl (run_rp1 pc HLEN.out _) ?_)
              | (at_builtin
                 refine wpList_appk _ rfl (.tmp 51) (.tmp 53) 39 rfl w.heap.size 23 i1 _ 5 40 Try.underlying39 ji jz0 jz1 jz2 rfl (by decide) (.slice A1 k c1) k (rws pcel (cutU a b r k)) rfl HR4.out (w4.heap.size + 1) (some ⟨w4.heap.size, 0, none⟩) 1 pc 1 rfl (by rw [HLEN.out]) (sees_lit w4 _ 23 (0, 0) _ rfl) ONE (by unfold maxLen; omega) (by omega) (by have := HB4.out.size; simp; omega) ?_
                 intro A5 c5 w5 hr5 hb5 hg5 hat5)
              | fail)
            rw [← HSN.out] at hr5
            have HR5 := Lib.hid hr5
            have HB5 := Lib.hid ((HB4.out.alloc HB4.out.size _).trans hb5)
            clear hr5 hb5 hg5 hat5 R4
            go_roundw
            case rel => exact ⟨k + 1, by omega, by go_num, ⟨A5, c5, rfl, HR5⟩, Lib.hid (fun _ => by have := HOK2.out; omega), HB5⟩
            case measure => simp [intOf]; omega
          | false =>
            have HNO : Hid (cutL a b r = []) := Lib.hid (by
              rw [HCL.out]
              refine if_neg (fun h => of_decide_eq_false HOKK.out.symm ?_)
              omega)
            clear R4
            go_wp2_with fail
            go_ret
            exact ⟨none, 0, by rw [HNO.out]; rfl, by rw [HNO.out]; exact World.ownsRow_nil _ _ _ _, HB4.out⟩
        · obtain rfl : k = m := by omega
          have dk : decide ((k : Int) < (k : Int)) = false := by simp
          have HYES : Hid (cutL a b r = cutU a b r k) := Lib.hid (by
            rw [HCL.out]
            have := HOK.out hm0
            exact if_pos ⟨this.1, by omega, hb0, this.2.2⟩)
          go_wp2_with fail
          go_ret
          exact ⟨A1, c1, by rw [HYES.out, cutU_len]; rfl, by rw [HYES.out, cutU_len]; exact HR.out, HBR.out⟩
    · have d1 : decide ((1099511627776 : Int) < b) = true := decide_eq_true (by omega)
      rw [if_neg (by omega)] at HCL
      rw [HCL.out]
      go_enter Try.func23, Try.ntmps23
      go_wp2_with fail
      refine (HM.out _).mono ?_
      rintro e wx ⟨rfl, rfl⟩
      have HB0 := Lib.hid ((Below.refl w.heap.size w).alloc (Nat.le_refl _) (.cells #[] 23))
      go_wp2_with fail
      go_ret
      exact ⟨none, 0, rfl, World.ownsRow_nil _ _ _ _, HB0.out⟩
  · have d0 : decide (b < 0) = true := decide_eq_true (by omega)
    rw [if_neg (by omega)] at HCL
    rw [HCL.out]
    go_enter Try.func23, Try.ntmps23
    go_wp2_with fail
    refine (HM.out _).mono ?_
    rintro e wx ⟨rfl, rfl⟩
    have HB0 := Lib.hid ((Below.refl w.heap.size w).alloc (Nat.le_refl _) (.cells #[] 23))
    go_wp2_with fail
    go_ret
    exact ⟨none, 0, rfl, World.ownsRow_nil _ _ _ _, HB0.out⟩
end Go.Proofs.Ytgoebblcggdlgaa
