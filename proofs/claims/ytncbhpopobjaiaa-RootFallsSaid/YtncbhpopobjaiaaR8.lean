/- Roots: the document's sector of a root. -/
import Derived.Test.YtncbhpopobjaiaaR6
import Derived.Test.YtncbhpopobjaiaaR7
import Derived.Lib.ConvBytes
import Derived.Lib.LazyBuf
import Derived.Laws.StructEq
import Derived.Test.YtncbhpopobjaiaaR5
import Derived.Test.YtncbhpopobjaiaaR4
namespace Go.Proofs.Ytncbhpopobjaiaa
set_option linter.unusedVariables false
set_option linter.unusedSimpArgs false
open Go Go.RowKit SumM OctM

theorem rseal_any (l : List UInt8) (hm : l.length ≤ 65536) (w : World) : Calls Try.prog 34 #[.string (str l)] w fun e w' => e = .returned (.string (str (sealOf l))) ∧ Below w.heap.size w w' := by
  have hst := run_str (P := Try.prog) _ _ 62 5 9 Try.underlying62 Try.underlying5 Try.underlying9 _ 4 4 (le4 (sumOf l)) rfl (sees_lit w _ 5 (0, 0) _ (le4_vals (sumOf l)))
  have hz1 : (str l).size ≤ 65536 := by rw [str_size]; exact hm
  have hz2 : (str (le4 (sumOf l))).size ≤ 4 := by rw [str_size]; simp [le4_length]
  go_enter Try.func34, Try.ntmps34
  go_wp2_with fail
  refine (ref_of l (by simp [maxLen]; omega) _).mono ?_
  rintro e w' ⟨rfl, rfl⟩
  go_wp2
  go_ret
  exact ⟨by rw [str_append]; rfl, (Below.refl _ _).alloc (Nat.le_refl _) _⟩
theorem exec_mks {P : Program} {a : Act} {op : Oper} {w w' : World} (t : TypeId) (x y : Operand) (ho : op.op = .makeSlice t x y) (u v r : Value) (hx : a.eval x = u) (hy : a.eval y = v) (h : (Instr.makeSlice t u v).run P w = .ok r w') : (execOp a.eval op).run P w = .ok (.value r) w' := by
  unfold execOp
  simp only [ho, hx, hy, Sem.run_bind, h, Result.andThen_ok, Sem.run_pure]
theorem mk_byt (k : Nat) (hk : k ≤ 65536) (w : World) : (Instr.makeSlice 62 (.int .i64 (k : Int)) (.int .i64 (k : Int))).run Try.prog w = .ok (.slice (some ⟨w.heap.size, 0, none⟩) k k) (w.alloc (.cells (bvs (List.replicate k 0)).toArray 5)) := by
  obtain ⟨i0, hi, hz, hs, hb⟩ := oct_parts
  have hr := run_make (P := Try.prog) w 62 5 i0 _ Try.underlying62 hi hz .i64 .i64 (k : Int) (k : Int) (by omega) (Int.le_refl _) (by rw [hb]; omega) (by omega)
  simp only [Int.toNat_natCast, hs] at hr
  rw [show madeCells (Value.int IntKind.u8 0).cells (k * 1) = (bvs (List.replicate k 0)).toArray from by
    apply Array.toList_inj.1
    apply List.ext_getElem
    · simp [madeCells, bvs]
    · intro j h1 h2
      simp [madeCells, bvs, Value.cells, Nat.mod_one]
      rfl] at hr
  exact hr
set_option maxRecDepth 100000 in
set_option maxHeartbeats 3200000 in
theorem rrtput_any (x : Rt) (w : World) : Calls Try.prog 13 #[.agg (rtc x).toArray] w fun e w' => e = .returned (.string (str (rput x))) ∧ Below w.heap.size w w' := by
  have hu := Try.underlying23
  have HCH : Hid (∀ wx : World, Calls Try.prog 11 #[.agg #[.int .i64 x.1, .int .i64 x.2.1, .int .i64 x.2.2]] wx fun e w' => e = .returned (.bool (decide (Rok x))) ∧ Below wx.heap.size wx w') := Lib.hid (fun wx => rrtcheck_any x wx)
  obtain ⟨R, hR⟩ : ∃ R, R = str (rput x) := ⟨_, rfl⟩
  have HR0 : Hid (R = str (rput x)) := Lib.hid hR
  rw [← hR]
  by_cases hok : Rok x
  · rw [decide_eq_true hok] at HCH
    have HR : Hid (R = str (sealOf (rpad x))) := Lib.hid (by rw [hR]; unfold rput; rw [if_pos hok])
    have hlen := rhead_len x
    have hpl := rpad_len x
    have hl1 := held_len x.1
    have hl2 := held_len x.2.1
    have hl3 := held_len x.2.2
    obtain ⟨s1, hs1⟩ : ∃ s1, s1 = str (enc (held x.1)) := ⟨_, rfl⟩
    obtain ⟨s2, hs2⟩ : ∃ s2, s2 = str (enc (held x.2.1)) := ⟨_, rfl⟩
    obtain ⟨s3, hs3⟩ : ∃ s3, s3 = str (enc (held x.2.2)) := ⟨_, rfl⟩
    have z1 : s1.size ≤ 6 := by rw [hs1, str_size]; exact hl1
    have z2 : s2.size ≤ 6 := by rw [hs2, str_size]; exact hl2
    have z3 : s3.size ≤ 6 := by rw [hs3, str_size]; exact hl3
    have HN1 : Hid (∀ wx : World, Calls Try.prog 33 #[.int .i64 x.1] wx fun e w' => e = .returned (.string s1) ∧ Below wx.heap.size wx w') := Lib.hid (fun wx => by rw [hs1]; exact ref_num x.1 wx)
    have HN2 : Hid (∀ wx : World, Calls Try.prog 33 #[.int .i64 x.2.1] wx fun e w' => e = .returned (.string s2) ∧ Below wx.heap.size wx w') := Lib.hid (fun wx => by rw [hs2]; exact ref_num x.2.1 wx)
    have HN3 : Hid (∀ wx : World, Calls Try.prog 33 #[.int .i64 x.2.2] wx fun e w' => e = .returned (.string s3) ∧ Below wx.heap.size wx w') := Lib.hid (fun wx => by rw [hs3]; exact ref_num x.2.2 wx)
    have HSH : Hid ((⟨#[114, 111, 111, 116]⟩ : ByteArray) ++ s1 ++ s2 ++ s3 = str (rhead x)) := Lib.hid (by
      rw [hs1, hs2, hs3, show (⟨#[114, 111, 111, 116]⟩ : ByteArray) = str rname from rfl, str_append, str_append, str_append]
      rfl)
    obtain ⟨k, hk⟩ : ∃ k, (rhead x).length + k = 60 := ⟨60 - (rhead x).length, by omega⟩
    have HRP : Hid (rpad x = rhead x ++ List.replicate k 0) := Lib.hid (by unfold rpad; congr 2; omega)
    obtain ⟨sz, hsz⟩ : ∃ sz, sz = str (List.replicate k 0) := ⟨_, rfl⟩
    have HSP : Hid (str (rhead x) ++ sz = str (rpad x)) := Lib.hid (by rw [hsz, str_append, HRP.out])
    have zz : sz.size = k := by rw [hsz, str_size, List.length_replicate]
    have HSZ : Hid (sz = str (List.replicate k 0)) := Lib.hid hsz
    have HSL : Hid (∀ wx : World, Calls Try.prog 34 #[.string (str (rpad x))] wx fun e w' => e = .returned (.string R) ∧ Below wx.heap.size wx w') := Lib.hid (fun wx => by rw [HR.out]; exact rseal_any (rpad x) (by omega) wx)
    have hzh : (str (rhead x)).size = (rhead x).length := str_size _
    obtain ⟨S, hS⟩ : ∃ S, S = str (rhead x) := ⟨_, rfl⟩
    rw [← hS] at HSH HSP hzh
    obtain ⟨T, hT⟩ : ∃ T, T = str (rpad x) := ⟨_, rfl⟩
    rw [← hT] at HSP HSL
    obtain ⟨n, hn⟩ : ∃ n, n = (rhead x).length := ⟨_, rfl⟩
    rw [← hn] at hzh hk hlen
    clear hs1 hs2 hs3 hS hT hn hsz hl1 hl2 hl3 hR hok hpl HRP HR
    obtain ⟨a, b, c⟩ := x
    dsimp only at HCH HN1 HN2 HN3
    show Calls Try.prog 13 #[.agg #[.int .i64 a, .int .i64 b, .int .i64 c]] w _
    have B1 := Blk.new w [.int .i64 a, .int .i64 b, .int .i64 c] 23
    have RB := B1.range 0 [.int .i64 a, .int .i64 b, .int .i64 c] rfl
    have HB1 := Lib.hid B1
    have HL1 := Lib.hid ((Below.refl w.heap.size w).alloc (Nat.le_refl _) (.cells #[.int .i64 a, .int .i64 b, .int .i64 c] 23))
    clear B1 HR0
    go_enter Try.func13, Try.ntmps13
    go_wp2_with (first
      | (refine wpList_load_mid rfl 23 (.tmp 1) rfl w.heap.size 0 rfl [.int .i64 a, .int .i64 b, .int .i64 c] _ RB hu rfl info_rtfrom ?_
         simp only [Act.put, List.setIfInBounds_toArray, List.set_cons_zero, List.set_cons_succ])
      | fail)
    refine (HCH.out _).mono ?_
    rintro e w1 ⟨rfl, hb1⟩
    have HB2 := Lib.hid (HB1.out.later hb1)
    have HL2 := Lib.hid (HL1.out.trans (hb1.mono HL1.out.size))
    clear hb1 HB1 HL1 RB HCH
    go_wp2_with fail
    have KC : ∀ wx, Le w1 wx → wx.cell? ⟨w.heap.size, 0, none⟩ = some (.int .i64 a) ∧ wx.cell? ⟨w.heap.size, 1, none⟩ = some (.int .i64 b) ∧ wx.cell? ⟨w.heap.size, 2, none⟩ = some (.int .i64 c) := fun wx hl => ⟨(HB2.out.later hl).cell (j := 0) rfl, (HB2.out.later hl).cell (j := 1) rfl, (HB2.out.later hl).cell (j := 2) rfl⟩
    have z0 : (⟨#[114, 111, 111, 116]⟩ : ByteArray).size = 4 := rfl
    have z4 : ((⟨#[114, 111, 111, 116]⟩ : ByteArray) ++ s1).size ≤ 10 := by rw [ByteArray.size_append]; omega
    have z5 : ((⟨#[114, 111, 111, 116]⟩ : ByteArray) ++ s1 ++ s2).size ≤ 16 := by rw [ByteArray.size_append]; omega
    refine wp_region_steady [] 27 (by kernel_rfl) (by kernel_rfl) (by kernel_rfl) (by rfl) ?_
    iterate 1 (refine wpG_quiet (by rfl) (by rfl) (by rfl) (fun K hK => ?_); go_big_quiet_op; refine hK _ ?_; clear hK K)
    refine wpG_run (by rfl) (by rfl) (.int .i64 a) (fun wx hl => by have := (KC wx hl.1).1; simp [go_sem, this]) ?_
    simp only [Act.put, List.setIfInBounds_toArray, List.set_cons_zero, List.set_cons_succ]
    refine wpG_call (by rfl) (by rfl) 33 #[.int .i64 a] (.string s1) (by intro _; simp [go_sem]) (by kernel_rfl) (fun wx _ => HN1.out wx) ?_
    simp only [Act.put, List.setIfInBounds_toArray, List.set_cons_zero, List.set_cons_succ]
    iterate 2 (refine wpG_quiet (by rfl) (by rfl) (by rfl) (fun K hK => ?_); go_big_quiet_op; refine hK _ ?_; clear hK K)
    refine wpG_run (by rfl) (by rfl) (.int .i64 b) (fun wx hl => by have := (KC wx hl.1).2.1; simp [go_sem, this]) ?_
    simp only [Act.put, List.setIfInBounds_toArray, List.set_cons_zero, List.set_cons_succ]
    refine wpG_call (by rfl) (by rfl) 33 #[.int .i64 b] (.string s2) (by intro _; simp [go_sem]) (by kernel_rfl) (fun wx _ => HN2.out wx) ?_
    simp only [Act.put, List.setIfInBounds_toArray, List.set_cons_zero, List.set_cons_succ]
    iterate 2 (refine wpG_quiet (by rfl) (by rfl) (by rfl) (fun K hK => ?_); go_big_quiet_op; refine hK _ ?_; clear hK K)
    refine wpG_run (by rfl) (by rfl) (.int .i64 c) (fun wx hl => by have := (KC wx hl.1).2.2; simp [go_sem, this]) ?_
    simp only [Act.put, List.setIfInBounds_toArray, List.set_cons_zero, List.set_cons_succ]
    refine wpG_call (by rfl) (by rfl) 33 #[.int .i64 c] (.string s3) (by intro _; simp [go_sem]) (by kernel_rfl) (fun wx _ => HN3.out wx) ?_
    simp only [Act.put, List.setIfInBounds_toArray, List.set_cons_zero, List.set_cons_succ]
    iterate 2 (refine wpG_quiet (by rfl) (by rfl) (by rfl) (fun K hK => ?_); go_big_quiet_op; refine hK _ ?_; clear hK K)
    refine wpG_nil fun w2 hl _ => ?_
    rw [HSH.out]
    have HL3 := Lib.hid (HL2.out.trans (hl.mono HL2.out.size))
    have hki : (60 : Int) - (n : Int) = (k : Int) := by omega
    have HM := Lib.hid (mk_byt k (by omega) w2)
    have BN := Blk.new w2 (bvs (List.replicate k 0)) 5
    have HL4 := Lib.hid (HL3.out.alloc HL3.out.size (.cells (bvs (List.replicate k 0)).toArray 5))
    have sees0 : Sees (w2.alloc (.cells (bvs (List.replicate k 0)).toArray 5)) (w2.heap.size + 1) (some ⟨w2.heap.size, 0, none⟩) (bvs (List.replicate k 0)) := sees_lit w2 _ 5 (0, 0) _ (by simp)
    have HCV := Lib.hid (str_cnv (w2.alloc (.cells (bvs (List.replicate k 0)).toArray 5)) (w2.heap.size + 1) (some ⟨w2.heap.size, 0, none⟩) k k (List.replicate k 0) sz (by simp) sees0 HSZ.out)
    generalize hw3 : w2.alloc (.cells (bvs (List.replicate k 0)).toArray 5) = w3 at HM HL4 HCV
    clear hw3 BN sees0 hk hl KC HSH z1 z2 z3 z4 z5 z0
    go_wp2_with (first
      | (refine wpList_execw (by rfl) (.slice (some ⟨w2.heap.size, 0, none⟩) k k) (exec_mks 62 (.tmp 22) (.tmp 22) rfl (.int .i64 (k : Int)) (.int .i64 (k : Int)) _ rfl rfl HM.out) ?_
         simp only [Act.put, List.setIfInBounds_toArray, List.set_cons_zero, List.set_cons_succ])
      | (refine wpList_execw (by rfl) (.string sz) (exec_cnv (.tmp 23) 62 9 rfl (.slice (some ⟨w2.heap.size, 0, none⟩) k k) rfl (.string sz) HCV.out) ?_
         simp only [Act.put, List.setIfInBounds_toArray, List.set_cons_zero, List.set_cons_succ])
      | fail)
    rw [HSP.out]
    refine (HSL.out w3).mono ?_
    rintro e w4 ⟨rfl, hb4⟩
    have HL5 := Lib.hid (HL4.out.trans (hb4.mono HL4.out.size))
    clear hb4
    go_wp2_with fail
    go_ret
    exact ⟨rfl, HL5.out⟩
  · rw [decide_eq_false hok] at HCH
    have HR : Hid (R = ⟨#[]⟩) := Lib.hid (by rw [hR]; unfold rput; rw [if_neg hok]; rfl)
    clear hR hok
    obtain ⟨a, b, c⟩ := x
    dsimp only at HCH
    show Calls Try.prog 13 #[.agg #[.int .i64 a, .int .i64 b, .int .i64 c]] w _
    have RB := (Blk.new w [.int .i64 a, .int .i64 b, .int .i64 c] 23).range 0 [.int .i64 a, .int .i64 b, .int .i64 c] rfl
    have HL1 := Lib.hid ((Below.refl w.heap.size w).alloc (Nat.le_refl _) (.cells #[.int .i64 a, .int .i64 b, .int .i64 c] 23))
    go_enter Try.func13, Try.ntmps13
    go_wp2_with (first
      | (refine wpList_load_mid rfl 23 (.tmp 1) rfl w.heap.size 0 rfl [.int .i64 a, .int .i64 b, .int .i64 c] _ RB hu rfl info_rtfrom ?_
         simp only [Act.put, List.setIfInBounds_toArray, List.set_cons_zero, List.set_cons_succ])
      | fail)
    refine (HCH.out _).mono ?_
    rintro e w1 ⟨rfl, hb1⟩
    have HL2 := Lib.hid (HL1.out.trans (hb1.mono HL1.out.size))
    clear hb1
    go_wp2_with fail
    go_ret
    exact ⟨by rw [HR.out]; rfl, HL2.out⟩
end Go.Proofs.Ytncbhpopobjaiaa

/- Roots: strings.CutPrefix of a name; a sector as an array; arrays held against each other. -/
namespace Go.Proofs.Ytncbhpopobjaiaa
set_option linter.unusedVariables false
set_option linter.unusedSimpArgs false
open Go Go.RowKit SumM OctM

theorem all_bytes : ∀ (f g : List UInt8), f.length = g.length → ((List.range f.length).all fun i => decide (f.getD i 0 = g.getD i 0)) = decide (f = g)
  | [], [], _ => rfl
  | x :: xs, y :: ys, h => by
    have ih := all_bytes xs ys (by simpa using h)
    rw [List.length_cons, List.range_succ_eq_map, List.all_cons, List.all_map]
    simp only [List.getD_cons_zero, Function.comp_def, List.getD_cons_succ, ih]
    by_cases h1 : x = y <;> by_cases h2 : xs = ys <;> simp [h1, h2]
  | [], _ :: _, h => by simp at h
  | _ :: _, [], h => by simp at h
theorem eq_b64 (d : Nat) (f g : List UInt8) (hf : f.length = 64) (hg : g.length = 64) (w : World) :
    (Op.equalIn (d + 2) 68 (.agg (bvs f).toArray) (.agg (bvs g).toArray)).run Try.prog w = .ok (decide (f = g)) w := by
  have hsz : ∀ w, (sizeOf 5).run Try.prog w = .ok 1 w := fun w => by kernel_rfl
  have hag : ∀ w, (isAgg 5).run Try.prog w = .ok false w := fun w => by kernel_rfl
  rw [← all_bytes f g (hf.trans hg.symm), hf, List.range_eq_range', Op.equalIn]
  simp only [Sem.run_bind, run_underlying Try.underlying68, Result.andThen_ok, hsz, Std.Legacy.Range.forIn_eq_forIn_range', Std.Legacy.Range.size, Nat.sub_zero, Nat.add_sub_cancel, Nat.div_one]
  have hl : ∀ i ∈ List.range' 0 64 1, i < 64 := fun i hi => by simpa using (List.mem_range'_1.1 hi).2
  generalize List.range' 0 64 1 = l at hl ⊢
  have pt : ∀ (h : List UInt8) (i : Nat), i < h.length → (part 5 (bvs h).toArray (i * 1)).run Try.prog w = .ok (.int .u8 ((h.getD i 0).toNat : Int)) w := fun h i hi => by
    have hb : i < (bvs h).length := by rw [bvs_length]; exact hi
    simp [part, hag, hsz, bvs, List.getD, hi]
    rfl
  induction l with
  | nil => simp
  | cons i l ih =>
    have hi : i < 64 := hl i (by simp)
    have px := pt f i (by omega)
    have py := pt g i (by omega)
    have q := run_equalIn_int (P := Try.prog) w d 5 .u8 .u8 ((f.getD i 0).toNat : Int) ((g.getD i 0).toNat : Int) Try.underlying5
    have e : (((f.getD i 0).toNat : Int) == ((g.getD i 0).toNat : Int)) = decide (f.getD i 0 = g.getD i 0) := by
      by_cases h : f.getD i 0 = g.getD i 0
      · rw [h]; simp
      · have : ¬ ((f.getD i 0).toNat : Int) = ((g.getD i 0).toNat : Int) := fun e => h (UInt8.toNat_inj.1 (by omega))
        rw [decide_eq_false h]
        simpa using this
    rw [e] at q
    simp only [List.forIn_cons, Sem.run_bind, px, py, q, Result.andThen_ok, List.all_cons]
    cases hb : decide (f.getD i 0 = g.getD i 0)
    · simp
    · simp only [Bool.not_true, Bool.false_eq_true, if_false, Sem.run_pure, Result.andThen_ok, Bool.true_and]
      exact ih fun j hj => hl j (by simp [hj])
set_option maxRecDepth 100000 in
set_option maxHeartbeats 1600000 in
theorem hasp_any (l : List UInt8) (w : World) (hl : l.length ≤ 1048576) : Calls Try.prog 56 #[.string (str l), .string ⟨#[114, 111, 111, 116]⟩] w fun e w' => e = .returned (.bool (decide (l.take 4 = rname))) ∧ w = w' := by
  obtain ⟨n, hn⟩ : ∃ n, n = l.length := ⟨_, rfl⟩
  obtain ⟨s, hs⟩ : ∃ s, s = str l := ⟨_, rfl⟩
  have hz : s.size = n := by rw [hs, str_size, hn]
  have z0 : (⟨#[114, 111, 111, 116]⟩ : ByteArray).size = 4 := rfl
  rw [← hn] at hl
  by_cases h4 : 4 ≤ n
  · have d0 : decide ((4 : Int) ≤ (n : Int)) = true := decide_eq_true (by omega)
    have i0 : (0 : Int) ≤ 4 := by decide
    have i1 : (4 : Int) ≤ (n : Int) := by omega
    have e1 : s.extract 0 4 = str (l.take 4) := by
      have := str_mid l 0 4
      rw [hs]
      simpa using this
    have e2 : ((s.extract 0 4).toList == [114, 111, 111, 116]) = decide (l.take 4 = rname) := by
      rw [e1, str_list]
      show (l.take 4 == rname) = _
      by_cases h : l.take 4 = rname <;> simp [h]
    generalize hd : decide (l.take 4 = rname) = dd at e2 ⊢
    rw [← hs]
    generalize hx : s.extract 0 4 = sx at e2
    clear hn hs e1 hd
    go_enter Try.func56, Try.ntmps56
    go_wp2_with fail
    go_ret
    exact ⟨by first | rfl | (rw [e2]; rfl) | (show Ending.returned (Value.bool (sx.toList == [114, 111, 111, 116])) = _; rw [e2]), rfl⟩
  · have d0 : decide ((4 : Int) ≤ (n : Int)) = false := decide_eq_false (by omega)
    have HD : Hid (decide (l.take 4 = rname) = false) := Lib.hid (decide_eq_false (fun h => by
      have := congrArg List.length h
      rw [List.length_take] at this
      have h2 : rname.length = 4 := rfl
      omega))
    rw [← hs]
    clear hn hs h4
    go_enter Try.func56, Try.ntmps56
    go_wp2_with fail
    go_ret
    exact ⟨by rw [HD.out]; rfl, rfl⟩
set_option maxRecDepth 100000 in
set_option maxHeartbeats 1600000 in
theorem cutp0_any (l : List UInt8) (w : World) (hl : l.length ≤ 1048576) : Calls Try.prog 48 #[.string (str l), .string ⟨#[114, 111, 111, 116]⟩] w fun e w' => e = .returned (.tuple #[.string (str (if l.take 4 = rname then l.drop 4 else l)), .bool (decide (l.take 4 = rname))]) ∧ w = w' := by
  have HH := Lib.hid (hasp_any l w hl)
  by_cases h : l.take 4 = rname
  · rw [decide_eq_true h] at HH ⊢
    rw [if_pos h]
    have h4 : 4 ≤ l.length := by
      have := congrArg List.length h
      rw [List.length_take] at this
      have h2 : rname.length = 4 := rfl
      omega
    obtain ⟨n, hn⟩ : ∃ n, n = l.length := ⟨_, rfl⟩
    obtain ⟨s, hs⟩ : ∃ s, s = str l := ⟨_, rfl⟩
    have hz : s.size = n := by rw [hs, str_size, hn]
    have HE : Hid (s.extract 4 n = str (l.drop 4)) := Lib.hid (by
      have := str_cut l 4
      rw [str_size] at this
      rw [hs, hn]
      exact this)
    have i0 : (0 : Int) ≤ 4 := by decide
    have i1 : (4 : Int) ≤ (n : Int) := by omega
    have z0 : (⟨#[114, 111, 111, 116]⟩ : ByteArray).size = 4 := rfl
    rw [← hs] at HH ⊢
    clear hn hs h4 h hl
    go_enter Try.func48, Try.ntmps48
    go_wp2_with fail
    refine HH.out.mono ?_
    rintro e w1 ⟨rfl, rfl⟩
    go_wp2_with fail
    exact bodyPost_ret (results_tmp2 rfl _ _ _) rfl ⟨by rw [← HE.out]; rfl, rfl⟩
  · rw [decide_eq_false h] at HH ⊢
    rw [if_neg h]
    obtain ⟨s, hs⟩ : ∃ s, s = str l := ⟨_, rfl⟩
    rw [← hs] at HH ⊢
    clear h hl hs
    go_enter Try.func48, Try.ntmps48
    go_wp2_with fail
    refine HH.out.mono ?_
    rintro e w1 ⟨rfl, rfl⟩
    go_wp2_with fail
    exact bodyPost_ret (results_tmp2 rfl _ _ _) rfl ⟨rfl, rfl⟩
set_option maxRecDepth 100000 in
set_option maxHeartbeats 1600000 in
theorem cutp_any (l : List UInt8) (w : World) (hl : l.length ≤ 1048576) : Calls Try.prog 26 #[.string (str l), .string ⟨#[114, 111, 111, 116]⟩] w fun e w' => e = .returned (.tuple #[.string (str (if l.take 4 = rname then l.drop 4 else l)), .bool (decide (l.take 4 = rname))]) ∧ w = w' := by
  have HH := Lib.hid (cutp0_any l w hl)
  obtain ⟨s, hs⟩ : ∃ s, s = str l := ⟨_, rfl⟩
  obtain ⟨t, ht⟩ : ∃ t, t = str (if l.take 4 = rname then l.drop 4 else l) := ⟨_, rfl⟩
  obtain ⟨d, hd⟩ : ∃ d, d = decide (l.take 4 = rname) := ⟨_, rfl⟩
  rw [← hs, ← ht, ← hd] at HH ⊢
  clear hs ht hd hl
  go_enter Try.func26, Try.ntmps26
  go_wp2_with fail
  refine HH.out.mono ?_
  rintro e w1 ⟨rfl, rfl⟩
  go_wp2_with fail
  exact bodyPost_ret (results_tmp2 rfl _ _ _) rfl ⟨rfl, rfl⟩
theorem info_arr : (Try.prog.info? 68).map (·.size) = some 64 := by kernel_rfl
set_option maxRecDepth 100000 in
set_option maxHeartbeats 3200000 in
theorem array_any (l : List UInt8) (hl : l.length = 64) (w : World) : Calls Try.prog 29 #[.string (str l)] w fun e w' => e = .returned (.agg (bvs l).toArray) ∧ Below w.heap.size w w' := by
  have hu := Try.underlying68
  obtain ⟨zs, hzs⟩ : ∃ zs, zs = bvs (List.replicate 64 0) := ⟨_, rfl⟩
  have HZ : Hid (zs.toArray = (bvs (List.replicate 64 0)).toArray) := Lib.hid (by rw [hzs])
  have HZL : Hid (zs.length = 64) := Lib.hid (by rw [hzs, bvs_length, List.length_replicate])
  obtain ⟨s, hs⟩ : ∃ s, s = str l := ⟨_, rfl⟩
  have HSS : Hid (s.size = 64) := Lib.hid (by rw [hs, str_size, hl])
  have HSL : Hid (s.data.toList.map (fun x => Value.int .u8 (x.toNat : Int)) = bvs l) := Lib.hid (by rw [hs]; rfl)
  obtain ⟨xs, hxs⟩ : ∃ xs, xs = bvs l := ⟨_, rfl⟩
  have HXL : Hid (xs.length = 64) := Lib.hid (by rw [hxs, bvs_length, hl])
  have HX1 : Hid (xs.toArray.all (·.oneCell') = true) := Lib.hid (by rw [hxs]; exact all_oneCell_toArray (bvs_one l))
  have IN : (Try.prog.info? 68).map (·.size) = some xs.toArray.size := by rw [(List.size_toArray).trans HXL.out]; exact info_arr
  rw [← hxs] at HSL ⊢
  rw [← hs]
  clear hzs hs hl
  go_enter Try.func29, Try.ntmps29
  go_wp2_with fail
  generalize hW : World.alloc (World.alloc w _) _ = W
  have hW2 : W = (w.alloc (.cells zs.toArray 68)).alloc (.cells zs.toArray 68) := by rw [← hW, HZ.out]; kernel_rfl
  clear hW
  have BA := (Blk.new w zs 68).alloc (.cells zs.toArray 68)
  have BB := Blk.new (w.alloc (.cells zs.toArray 68)) zs 68
  rw [World.size_alloc] at BB
  have LB := (((Below.refl w.heap.size w).alloc (Nat.le_refl _) (.cells zs.toArray 68))).alloc (by simp) (.cells zs.toArray 68)
  rw [← hW2] at BA BB LB
  clear hW2
  have hcp := Go.run_copy_string (P := Try.prog) (ty := 3) W 62 9 5 (w.heap.size + 1) 0 64 64 s Try.underlying62 (fun w => by kernel_rfl) (by rw [HSS.out]; exact Nat.le_refl _)
    (fun j hj => by rw [Nat.zero_add, BB.cell (List.getElem?_eq_getElem (show j < zs.length by rw [HZL.out, ← HSS.out]; exact hj))]; rfl) (fun j hj => BB.frozen _)
  rw [HSL.out] at hcp
  have B2 := BB.sets xs 0 (by rw [HXL.out, HZL.out]; decide)
  have e2 : zs.take 0 ++ xs ++ zs.drop (0 + xs.length) = xs := by rw [List.take_zero, List.nil_append, Nat.zero_add, HXL.out, ← HZL.out, List.drop_length, List.append_nil]
  rw [e2] at B2
  have BA2 := Blk.setsOther (b := w.heap.size + 1) (by omega) xs 0 BA
  have LB2 := below_sets (Nat.le_succ w.heap.size) xs 0 LB
  rw [hcp]
  generalize W.setCells (w.heap.size + 1) 0 xs = W3 at B2 BA2 LB2
  have RB := B2.range 0 xs (by rw [List.drop_zero, List.take_length])
  have TH : W3.there w.heap.size 0 xs.toArray.size := by rw [(List.size_toArray).trans HXL.out]; exact BA2.there 0 64 (by rw [HZL.out]; decide)
  have BA3 := BA2.sets xs 0 (by rw [HXL.out, HZL.out]; decide)
  rw [e2] at BA3
  have HA3 := Lib.hid BA3
  have HL3 := Lib.hid (below_sets (Nat.le_refl w.heap.size) xs 0 LB2)
  clear hcp BA BB LB B2 e2 BA2 LB2 BA3
  simp only [Result.andThen]
  rw [Oper.upon_value]
  simp only [Act.put, List.setIfInBounds_toArray, List.set_cons_zero, List.set_cons_succ]
  have HI3 : Hid ((Try.prog.info? 68).map (·.size) = some xs.length) := Lib.hid (by rw [HXL.out]; exact info_arr)
  go_wp2_with (first
    | (refine wpList_load_mid rfl 68 (.tmp 3) rfl (w.heap.size + 1) 0 rfl xs _ RB hu rfl HI3.out ?_
       simp only [Act.put, List.setIfInBounds_toArray, List.set_cons_zero, List.set_cons_succ])
    | (refine wpList_store_mid rfl 68 (.tmp 2) (.tmp 7) rfl w.heap.size 0 xs.toArray rfl rfl TH IN HX1.out ?_
       simp only [Act.put, List.setIfInBounds_toArray, List.set_cons_zero, List.set_cons_succ])
    | fail)
  exact bodyPost_ret (v := .agg xs.toArray) (results_blk rfl _ _ w.heap.size xs _ rfl HA3.out hu rfl HI3.out) rfl ⟨rfl, HL3.out⟩
end Go.Proofs.Ytncbhpopobjaiaa

/- Roots: the program's Get. -/
namespace Go.Proofs.Ytncbhpopobjaiaa
set_option linter.unusedVariables false
set_option linter.unusedSimpArgs false
open Go Go.RowKit SumM OctM

theorem below_byts (w : World) (e : TypeId) (s : ByteArray) : Below w.heap.size w (Lib.bytesWorld w e s) := by
  refine ⟨?_, ?_, ?_, by rw [Lib.bytesWorld_size]; omega, fun k hk => Lib.bytesWorld_at_old w e s k hk⟩ <;> (unfold Lib.bytesWorld World.freeze; split <;> rfl)
theorem byts_conv (w : World) (l : List UInt8) : ∃ c w1, (convert 9 62 (.string (str l))).run Try.prog w = .ok (.slice (some ⟨w.heap.size, 0, none⟩) l.length c) w1 ∧ Below w.heap.size w w1 ∧ Sees w1 w1.heap.size (some ⟨w.heap.size, 0, none⟩) (bvs l) := by
  have h0 := Lib.run_convert_string_bytes (P := Try.prog) w 9 62 5 (str l) Try.underlying9 Try.underlying62 Try.underlying5
  rw [str_size] at h0
  refine ⟨_, _, h0, below_byts w _ (str l), ?_⟩
  intro _
  refine ⟨_, _, rfl, by rw [Lib.bytesWorld_size]; omega, fun j hj => ?_⟩
  rw [bvs_length] at hj
  have h := Lib.bytesWorld_cell w 5 (str l) j (by rw [str_size]; exact hj)
  rw [Nat.zero_add, h]
  have e : (str l).data.toList.getD j 0 = l[j] := by
    show l.getD j 0 = l[j]
    rw [List.getD_eq_getElem?_getD, List.getElem?_eq_getElem hj]; rfl
  rw [e]
  simp [bvs, bv]
theorem rpars_eq (M : Int) (l : List UInt8) : rpars M l = ((((rp1 l).1 : Nat) : Int), (((rp2 l).1 : Nat) : Int), (((rp3 M l).1 : Nat) : Int)) := rfl
set_option maxRecDepth 100000 in
set_option maxHeartbeats 6400000 in
theorem rtget_any (l : List UInt8) (w : World) (hl : l.length ≤ 1048576) : Calls Try.prog 7 #[.string (str l)] w fun e w' => e = .returned (.tuple #[.agg (rtc (rget l).1).toArray, .bool (rget l).2]) ∧ Below w.heap.size w w' := by
  have hu := Try.underlying25
  have HCP := Lib.hid (fun wx => cutp_any l wx hl)
  have HB1 : Hid (Blk (w.alloc (.cells #[.int .i64 0, .int .i64 0, .int .i64 0] 25)) w.heap.size [.int .i64 0, .int .i64 0, .int .i64 0]) := Lib.hid (Blk.new w [.int .i64 0, .int .i64 0, .int .i64 0] 25)
  have HL1 := Lib.hid ((Below.refl w.heap.size w).alloc (Nat.le_refl _) (.cells #[.int .i64 0, .int .i64 0, .int .i64 0] 25))
  have HG0 : Hid (∀ h : rget l = (rt0, false), rtc (rget l).1 = [.int .i64 0, .int .i64 0, .int .i64 0] ∧ (rget l).2 = false) := Lib.hid (fun h => by rw [h]; exact ⟨rfl, rfl⟩)
  obtain ⟨s, hs⟩ : ∃ s, s = str l := ⟨_, rfl⟩
  obtain ⟨n, hn⟩ : ∃ n, n = l.length := ⟨_, rfl⟩
  have hz : s.size = n := by rw [hs, str_size, hn]
  by_cases ht : l.take 4 = rname
  · rw [if_pos ht, decide_eq_true ht] at HCP
    by_cases h64 : n = 64
    · have hl64 : l.length = 64 := by omega
      obtain ⟨m, hm⟩ : ∃ m, m = l.drop 4 := ⟨_, rfl⟩
      have hml : m.length ≤ 60 := by rw [hm, List.length_drop]; omega
      have HNO : Hid (¬ (Rok (rpars 1099511627776 m) ∧ rput (rpars 1099511627776 m) = l) → rget l = (rt0, false)) := Lib.hid (fun h => rget_no l 1099511627776 (by omega) (by rw [← hm]; exact h))
      have HYES : Hid (Rok (rpars 1099511627776 m) → rput (rpars 1099511627776 m) = l → rget l = (rpars 1099511627776 m, true)) := Lib.hid (fun h1 h2 => rget_yes l _ h1 h2)
      have HAR : Hid (∀ wx : World, Calls Try.prog 29 #[.string s] wx fun e w' => e = .returned (.agg (bvs l).toArray) ∧ Below wx.heap.size wx w') := Lib.hid (fun wx => by rw [hs]; exact array_any l hl64 wx)
      obtain ⟨sm, hsm⟩ : ∃ sm, sm = str m := ⟨_, rfl⟩
      rw [← hm] at HCP
      have HBC : Hid (∀ wx : World, ∃ c w1, (convert 9 62 (.string sm)).run Try.prog wx = .ok (.slice (some ⟨wx.heap.size, 0, none⟩) m.length c) w1 ∧ Below wx.heap.size wx w1 ∧ Sees w1 w1.heap.size (some ⟨wx.heap.size, 0, none⟩) (bvs m)) := Lib.hid (fun wx => by rw [hsm]; exact byts_conv wx m)
      rw [← hsm, ← hs] at HCP
      rw [← hs]
      subst h64
      have HL64 := Lib.hid hl64
      have HML := Lib.hid hml
      clear hs hn ht hm hsm hl hl64 hml
      go_enter Try.func7, Try.ntmps7
      go_wp2_with fail
      refine (HCP.out _).mono ?_
      rintro e w1 ⟨rfl, hw1⟩
      rw [hw1] at HB1 HL1
      clear hw1 HCP
      obtain ⟨c2, w2, hcv, hb2, hs2⟩ := HBC.out w1
      have HCV := Lib.hid hcv
      have HB2 := Lib.hid (HB1.out.later hb2)
      have HL2 := Lib.hid (HL1.out.trans (hb2.mono HL1.out.size))
      have HS2 := Lib.hid hs2
      clear hcv hb2 hs2 HBC
      go_wp2_with (first
        | (refine wpList_execw (by rfl) (.slice (some ⟨w1.heap.size, 0, none⟩) m.length c2) (exec_cnv (.tmp 21) 9 62 rfl (.string sm) rfl _ HCV.out) ?_
           simp only [Act.put, List.setIfInBounds_toArray, List.set_cons_zero, List.set_cons_succ])
        | fail)
      refine (rd_new (some ⟨w1.heap.size, 0, none⟩) m.length c2 m w2 rfl HS2.out (by have := HML.out; omega)).mono ?_
      rintro e w3 ⟨g, rfl, hr3, hb3⟩
      have HB3 := Lib.hid (HB2.out.later hb3)
      have HL3 := Lib.hid (HL2.out.trans (hb3.mono HL2.out.size))
      have HR3 := Lib.hid hr3
      have hgl := hr3.block
      have HGL := Lib.hid hgl
      have HZ2 := Lib.hid HL2.out.size
      clear hb3 hr3 HCV HS2 hgl
      go_wp2_with fail
      refine (rd_num w2.heap.size g m 0 0 4294967295 w3 HR3.out (Nat.zero_le _) (by have := HML.out; omega)).mono ?_
      rintro e w4 ⟨rfl, hr4, hg4⟩
      have HB4 := Lib.hid (HB3.out.kept hg4 (by have h1 := HGL.out.1; have h2 := HB2.out.lt; intro e; injection e with e; omega))
      have HL4 := Lib.hid (HL3.out.grown hg4 HL3.out.size (fun j hj => by injection hj with hj; have := HGL.out.1; have := HZ2.out; omega))
      have hr4 : Rd w4 w2.heap.size g m (rp1 m).2.1 (rp1 m).2.2 := hr4
      have HR4 := Lib.hid hr4
      clear hr4 hg4
      have e1 : ((numOut m 0 0 4294967295).1 : Int) = ((rp1 m).1 : Int) := rfl
      rw [e1]
      clear e1
      have hat1 : (rp1 m).2.1 ≤ m.length := numOut_at m 0 0 4294967295 (Nat.zero_le _)
      generalize hx1 : ((rp1 m).1 : Int) = x1
      go_wp2_with fail
      refine (rd_num w2.heap.size g m (rp1 m).2.1 (rp1 m).2.2 4294967295 w4 HR4.out hat1 (by have := HML.out; omega)).mono ?_
      rintro e w5 ⟨rfl, hr5, hg5⟩
      have HB5 := Lib.hid (HB4.out.kept hg5 (by have h1 := HGL.out.1; have h2 := HB2.out.lt; intro e; injection e with e; omega))
      have HL5 := Lib.hid (HL4.out.grown hg5 HL4.out.size (fun j hj => by injection hj with hj; have := HGL.out.1; have := HZ2.out; omega))
      have hr5 : Rd w5 w2.heap.size g m (rp2 m).2.1 (rp2 m).2.2 := hr5
      have HR5 := Lib.hid hr5
      clear hr5 hg5
      have e1 : ((numOut m (rp1 m).2.1 (rp1 m).2.2 4294967295).1 : Int) = ((rp2 m).1 : Int) := rfl
      rw [e1]
      clear e1
      have hat2 : (rp2 m).2.1 ≤ m.length := numOut_at m _ _ 4294967295 hat1
      generalize hx2 : ((rp2 m).1 : Int) = x2
      go_wp2_with fail
      refine (rd_num w2.heap.size g m (rp2 m).2.1 (rp2 m).2.2 1099511627776 w5 HR5.out hat2 (by have := HML.out; omega)).mono ?_
      rintro e w6 ⟨rfl, hr6, hg6⟩
      have HB6 := Lib.hid (HB5.out.kept hg6 (by have h1 := HGL.out.1; have h2 := HB2.out.lt; intro e; injection e with e; omega))
      have HL6 := Lib.hid (HL5.out.grown hg6 HL5.out.size (fun j hj => by injection hj with hj; have := HGL.out.1; have := HZ2.out; omega))
      clear hr6 hg6
      have e1 : ((numOut m (rp2 m).2.1 (rp2 m).2.2 1099511627776).1 : Int) = ((rp3 1099511627776 m).1 : Int) := rfl
      rw [e1]
      clear e1
      generalize hx3 : ((rp3 1099511627776 m).1 : Int) = x3
      have hy : rpars 1099511627776 m = (x1, x2, x3) := by rw [rpars_eq, hx1, hx2, hx3]
      rw [hy] at HNO HYES
      clear hx1 hx2 hx3 hy hat1 hat2 HB3 HB4 HB5 HL3 HL4 HL5 HR3 HR4 HR5
      have BX := Blk.new w6 [.int .i64 0, .int .i64 0, .int .i64 0] 25
      have THX := BX.there 0 3 (by simp)
      have BX2 := BX.sets [.int .i64 x1, .int .i64 x2, .int .i64 x3] 0 (by simp)
      have BX2 : Blk ((w6.alloc (.cells #[.int .i64 0, .int .i64 0, .int .i64 0] 25)).setCells w6.heap.size 0 [.int .i64 x1, .int .i64 x2, .int .i64 x3]) w6.heap.size [.int .i64 x1, .int .i64 x2, .int .i64 x3] := BX2
      have HB7 := HB6.out.alloc (.cells #[.int .i64 0, .int .i64 0, .int .i64 0] 25)
      have HB8 := Lib.hid (Blk.setsOther (b := w6.heap.size) (by have := HB6.out.lt; omega) [.int .i64 x1, .int .i64 x2, .int .i64 x3] 0 HB7)
      have HL8 := Lib.hid (below_sets HL6.out.size [.int .i64 x1, .int .i64 x2, .int .i64 x3] 0 (HL6.out.alloc HL6.out.size (.cells #[.int .i64 0, .int .i64 0, .int .i64 0] 25)))
      have RB := BX2.range 0 [.int .i64 x1, .int .i64 x2, .int .i64 x3] rfl
      have HBX := Lib.hid BX2
      have HCH := Lib.hid (fun wx => rtcheck_any (x1, x2, x3) wx)
      have HCH : Hid (∀ wx, Calls Try.prog 9 #[.agg #[.int .i64 x1, .int .i64 x2, .int .i64 x3]] wx fun e w' => e = .returned (.bool (decide (Rok (x1, x2, x3)))) ∧ Below wx.heap.size wx w') := HCH
      have HPT : Hid (∀ wx, Calls Try.prog 12 #[.agg #[.int .i64 x1, .int .i64 x2, .int .i64 x3]] wx fun e w' => e = .returned (.string (str (rput (x1, x2, x3)))) ∧ Below wx.heap.size wx w') := Lib.hid (fun wx => rtput_any (x1, x2, x3) wx)
      clear BX BX2 HB7 HB6 HL6
      by_cases hok : Rok (x1, x2, x3)
      · rw [decide_eq_true hok] at HCH
        obtain ⟨sp, hsp⟩ : ∃ sp, sp = str (rput (x1, x2, x3)) := ⟨_, rfl⟩
        have HAP : Hid (∀ wx : World, Calls Try.prog 29 #[.string sp] wx fun e w' => e = .returned (.agg (bvs (rput (x1, x2, x3))).toArray) ∧ Below wx.heap.size wx w') := Lib.hid (fun wx => by rw [hsp]; exact array_any _ (rput_len _ hok) wx)
        rw [← hsp] at HPT
        have HEQ := Lib.hid (fun wx : World => eq_b64 9998 (rput (x1, x2, x3)) l (rput_len _ hok) HL64.out wx)
        have HOK := Lib.hid hok
        clear hok hsp
        generalize hqq : rput (x1, x2, x3) = q at HAP HEQ HNO HYES
        clear hqq
        obtain ⟨qa, hqa⟩ : ∃ qa, qa = (bvs q).toArray := ⟨_, rfl⟩
        obtain ⟨la, hla⟩ : ∃ la, la = (bvs l).toArray := ⟨_, rfl⟩
        rw [← hqa, ← hla] at HEQ
        rw [← hqa] at HAP
        rw [← hla] at HAR
        clear hqa hla
        go_wp2_with (first
          | (refine wpList_store_mid rfl 25 (.tmp 7) (.tmp 30) rfl w6.heap.size 0 #[.int .i64 x1, .int .i64 x2, .int .i64 x3] rfl rfl THX info_rtto (by simp [Value.oneCell']) ?_
             simp only [Act.put, List.setIfInBounds_toArray, List.set_cons_zero, List.set_cons_succ])
          | (refine wpList_load_mid rfl 25 (.tmp 7) rfl w6.heap.size 0 rfl [.int .i64 x1, .int .i64 x2, .int .i64 x3] _ RB hu rfl info_rtto ?_
             simp only [Act.put, List.setIfInBounds_toArray, List.set_cons_zero, List.set_cons_succ])
          | fail)
        refine (HCH.out _).mono ?_
        rintro e w9 ⟨rfl, hb9⟩
        have HB9 := Lib.hid (HB8.out.later hb9)
        have HX9 := Lib.hid (HBX.out.later hb9)
        have HL9 := Lib.hid (HL8.out.trans (hb9.mono HL8.out.size))
        have RB9 := HX9.out.range 0 [.int .i64 x1, .int .i64 x2, .int .i64 x3] rfl
        clear hb9 RB THX HB8 HL8 HBX HCH
        go_wp2_with (first
          | (refine wpList_load_g (by rfl) 25 (.tmp 7) rfl w6.heap.size 0 rfl [.int .i64 x1, .int .i64 x2, .int .i64 x3] _ RB9 hu rfl info_rtto ?_
             simp only [Act.put, List.setIfInBounds_toArray, List.set_cons_zero, List.set_cons_succ])
          | fail)
        refine (HPT.out _).mono ?_
        rintro e wA ⟨rfl, hbA⟩
        have HBA := Lib.hid (HB9.out.later hbA)
        have HXA := Lib.hid (HX9.out.later hbA)
        have HLA := Lib.hid (HL9.out.trans (hbA.mono HL9.out.size))
        clear hbA RB9 HB9 HX9 HL9 HPT
        go_wp2_with fail
        refine (HAP.out _).mono ?_
        rintro e wB ⟨rfl, hbB⟩
        have HBB := Lib.hid (HBA.out.later hbB)
        have HXB := Lib.hid (HXA.out.later hbB)
        have HLB := Lib.hid (HLA.out.trans (hbB.mono HLA.out.size))
        clear hbB HBA HXA HLA HAP
        go_wp2_with fail
        refine (HAR.out _).mono ?_
        rintro e wC ⟨rfl, hbC⟩
        have HBC := Lib.hid (HBB.out.later hbC)
        have HXC := Lib.hid (HXB.out.later hbC)
        have HLC := Lib.hid (HLB.out.trans (hbC.mono HLB.out.size))
        have RBC := HXC.out.range 0 [.int .i64 x1, .int .i64 x2, .int .i64 x3] rfl
        clear hbC HBB HXB HLB HAR
        by_cases hql : q = l
        · rw [decide_eq_true hql] at HEQ
          have HGY := Lib.hid (HYES.out HOK.out hql)
          clear hql HNO HYES
          have TH := HBC.out.there 0 3 (by simp)
          have HBZ : Hid (Blk (wC.setCells w.heap.size 0 [.int .i64 x1, .int .i64 x2, .int .i64 x3]) w.heap.size [.int .i64 x1, .int .i64 x2, .int .i64 x3]) := Lib.hid (HBC.out.sets [.int .i64 x1, .int .i64 x2, .int .i64 x3] 0 (by simp))
          have HLZ := Lib.hid (below_sets (Nat.le_refl w.heap.size) [.int .i64 x1, .int .i64 x2, .int .i64 x3] 0 HLC.out)
          go_wp2_with (first
            | (refine wpList_exec (by rfl) (.bool (!true)) (exec_neq 68 _ (.tmp 37) (.tmp 39) rfl qa la rfl rfl (by kernel_rfl) true (HEQ.out _)) ?_
               simp only [Act.put, List.setIfInBounds_toArray, List.set_cons_zero, List.set_cons_succ, Bool.not_true])
            | (refine wpList_load_mid rfl 25 (.tmp 7) rfl w6.heap.size 0 rfl [.int .i64 x1, .int .i64 x2, .int .i64 x3] _ RBC hu rfl info_rtto ?_
               simp only [Act.put, List.setIfInBounds_toArray, List.set_cons_zero, List.set_cons_succ])
            | (refine wpList_store_mid rfl 25 (.tmp 2) (.tmp 43) rfl w.heap.size 0 #[.int .i64 x1, .int .i64 x2, .int .i64 x3] rfl rfl TH info_rtto (by simp [Value.oneCell']) ?_
               simp only [Act.put, List.setIfInBounds_toArray, List.set_cons_zero, List.set_cons_succ])
            | fail)
          exact bodyPost_ret (v := .tuple #[.agg #[.int .i64 x1, .int .i64 x2, .int .i64 x3], .bool true]) (results_rows_tmp rfl _ _ w.heap.size [.int .i64 x1, .int .i64 x2, .int .i64 x3] _ (.bool true) rfl rfl HBZ.out hu rfl info_rtto) rfl ⟨by rw [HGY.out]; rfl, HLZ.out⟩
        · rw [decide_eq_false hql] at HEQ
          have HGN := Lib.hid (HNO.out (fun h => hql h.2))
          clear hql HNO HYES RBC
          have TH := HBC.out.there 0 3 (by simp)
          have HBZ : Hid (Blk (wC.setCells w.heap.size 0 [.int .i64 0, .int .i64 0, .int .i64 0]) w.heap.size [.int .i64 0, .int .i64 0, .int .i64 0]) := Lib.hid (HBC.out.sets [.int .i64 0, .int .i64 0, .int .i64 0] 0 (by simp))
          have HLZ := Lib.hid (below_sets (Nat.le_refl w.heap.size) [.int .i64 0, .int .i64 0, .int .i64 0] 0 HLC.out)
          go_wp2_with (first
            | (refine wpList_exec (by rfl) (.bool (!false)) (exec_neq 68 _ (.tmp 37) (.tmp 39) rfl qa la rfl rfl (by kernel_rfl) false (HEQ.out _)) ?_
               simp only [Act.put, List.setIfInBounds_toArray, List.set_cons_zero, List.set_cons_succ, Bool.not_false])
            | (refine wpList_store_mid rfl 25 (.tmp 2) (.tmp 42) rfl w.heap.size 0 #[.int .i64 0, .int .i64 0, .int .i64 0] rfl rfl TH info_rtto (by simp [Value.oneCell']) ?_
               simp only [Act.put, List.setIfInBounds_toArray, List.set_cons_zero, List.set_cons_succ])
            | fail)
          exact bodyPost_ret (v := .tuple #[.agg #[.int .i64 0, .int .i64 0, .int .i64 0], .bool false]) (results_rows_tmp rfl _ _ w.heap.size [.int .i64 0, .int .i64 0, .int .i64 0] _ (.bool false) rfl rfl HBZ.out hu rfl info_rtto) rfl ⟨by rw [HGN.out]; rfl, HLZ.out⟩
      · rw [decide_eq_false hok] at HCH
        have HGN := Lib.hid (HNO.out (fun h => hok h.1))
        clear hok HNO HYES HAR HPT
        go_wp2_with (first
          | (refine wpList_store_mid rfl 25 (.tmp 7) (.tmp 30) rfl w6.heap.size 0 #[.int .i64 x1, .int .i64 x2, .int .i64 x3] rfl rfl THX info_rtto (by simp [Value.oneCell']) ?_
             simp only [Act.put, List.setIfInBounds_toArray, List.set_cons_zero, List.set_cons_succ])
          | (refine wpList_load_mid rfl 25 (.tmp 7) rfl w6.heap.size 0 rfl [.int .i64 x1, .int .i64 x2, .int .i64 x3] _ RB hu rfl info_rtto ?_
             simp only [Act.put, List.setIfInBounds_toArray, List.set_cons_zero, List.set_cons_succ])
          | fail)
        refine (HCH.out _).mono ?_
        rintro e w9 ⟨rfl, hb9⟩
        have HB9 := Lib.hid (HB8.out.later hb9)
        have HL9 := Lib.hid (HL8.out.trans (hb9.mono HL8.out.size))
        clear hb9 RB THX HB8 HL8 HBX HCH
        have TH := HB9.out.there 0 3 (by simp)
        have HBZ : Hid (Blk (w9.setCells w.heap.size 0 [.int .i64 0, .int .i64 0, .int .i64 0]) w.heap.size [.int .i64 0, .int .i64 0, .int .i64 0]) := Lib.hid (HB9.out.sets [.int .i64 0, .int .i64 0, .int .i64 0] 0 (by simp))
        have HLZ := Lib.hid (below_sets (Nat.le_refl w.heap.size) [.int .i64 0, .int .i64 0, .int .i64 0] 0 HL9.out)
        go_wp2_with (first
          | (refine wpList_store_mid rfl 25 (.tmp 2) (.tmp 42) rfl w.heap.size 0 #[.int .i64 0, .int .i64 0, .int .i64 0] rfl rfl TH info_rtto (by simp [Value.oneCell']) ?_
             simp only [Act.put, List.setIfInBounds_toArray, List.set_cons_zero, List.set_cons_succ])
          | fail)
        exact bodyPost_ret (v := .tuple #[.agg #[.int .i64 0, .int .i64 0, .int .i64 0], .bool false]) (results_rows_tmp rfl _ _ w.heap.size [.int .i64 0, .int .i64 0, .int .i64 0] _ (.bool false) rfl rfl HBZ.out hu rfl info_rtto) rfl ⟨by rw [HGN.out]; rfl, HLZ.out⟩
    · have n64 : ((n : Int) != 64) = true := by rw [bne_iff_ne]; omega
      have HGN := Lib.hid (rget_len l (by omega))
      rw [← hs] at HCP ⊢
      generalize str (l.drop 4) = sm at HCP
      clear hs hn ht hl h64
      go_enter Try.func7, Try.ntmps7
      go_wp2_with fail
      refine (HCP.out _).mono ?_
      rintro e w1 ⟨rfl, hw1⟩
      rw [hw1] at HB1 HL1
      clear hw1 HCP
      have TH := HB1.out.there 0 3 (by simp)
      have HBZ : Hid (Blk (w1.setCells w.heap.size 0 [.int .i64 0, .int .i64 0, .int .i64 0]) w.heap.size [.int .i64 0, .int .i64 0, .int .i64 0]) := Lib.hid (HB1.out.sets [.int .i64 0, .int .i64 0, .int .i64 0] 0 (by simp))
      have HLZ := Lib.hid (below_sets (Nat.le_refl w.heap.size) [.int .i64 0, .int .i64 0, .int .i64 0] 0 HL1.out)
      go_wp2_with (first
        | (refine wpList_store_mid rfl 25 (.tmp 2) (.tmp 20) rfl w.heap.size 0 #[.int .i64 0, .int .i64 0, .int .i64 0] rfl rfl TH info_rtto (by simp [Value.oneCell']) ?_
           simp only [Act.put, List.setIfInBounds_toArray, List.set_cons_zero, List.set_cons_succ])
        | fail)
      exact bodyPost_ret (v := .tuple #[.agg #[.int .i64 0, .int .i64 0, .int .i64 0], .bool false]) (results_rows_tmp rfl _ _ w.heap.size [.int .i64 0, .int .i64 0, .int .i64 0] _ (.bool false) rfl rfl HBZ.out hu rfl info_rtto) rfl ⟨by rw [HGN.out]; rfl, HLZ.out⟩
  · rw [if_neg ht, decide_eq_false ht] at HCP
    have HGN := Lib.hid (rget_name l ht)
    rw [← hs] at HCP ⊢
    clear hs hn ht hl hz
    go_enter Try.func7, Try.ntmps7
    go_wp2_with fail
    refine (HCP.out _).mono ?_
    rintro e w1 ⟨rfl, hw1⟩
    rw [hw1] at HB1 HL1
    clear hw1 HCP
    have TH := HB1.out.there 0 3 (by simp)
    have HBZ : Hid (Blk (w1.setCells w.heap.size 0 [.int .i64 0, .int .i64 0, .int .i64 0]) w.heap.size [.int .i64 0, .int .i64 0, .int .i64 0]) := Lib.hid (HB1.out.sets [.int .i64 0, .int .i64 0, .int .i64 0] 0 (by simp))
    have HLZ := Lib.hid (below_sets (Nat.le_refl w.heap.size) [.int .i64 0, .int .i64 0, .int .i64 0] 0 HL1.out)
    go_wp2_with (first
      | (refine wpList_store_mid rfl 25 (.tmp 2) (.tmp 20) rfl w.heap.size 0 #[.int .i64 0, .int .i64 0, .int .i64 0] rfl rfl TH info_rtto (by simp [Value.oneCell']) ?_
         simp only [Act.put, List.setIfInBounds_toArray, List.set_cons_zero, List.set_cons_succ])
      | fail)
    exact bodyPost_ret (v := .tuple #[.agg #[.int .i64 0, .int .i64 0, .int .i64 0], .bool false]) (results_rows_tmp rfl _ _ w.heap.size [.int .i64 0, .int .i64 0, .int .i64 0] _ (.bool false) rfl rfl HBZ.out hu rfl info_rtto) rfl ⟨by rw [HGN.out]; rfl, HLZ.out⟩
end Go.Proofs.Ytncbhpopobjaiaa

/- Disks: sectors and writes that wait, as cells; where a disk lies: mathematics and frames. -/
namespace Go.Proofs.Ytncbhpopobjaiaa
set_option linter.unusedVariables false
set_option linter.unusedSimpArgs false
open Go Go.RowKit

section
variable {α : Type} (f : α → List Value) (n : Nat) (hf : ∀ x, (f x).length = n)
include hf
theorem fix_len (l : List α) : (l.flatMap f).length = l.length * n := by
  induction l with
  | nil => simp
  | cons x l ih => rw [List.flatMap_cons, List.length_append, hf, ih, List.length_cons, Nat.add_mul]; omega
theorem fix_take (l : List α) (k : Nat) : (l.flatMap f).take (k * n) = (l.take k).flatMap f := by
  induction l generalizing k with
  | nil => simp
  | cons x l ih =>
    cases k with
    | zero => simp
    | succ k => rw [List.flatMap_cons, List.take_succ_cons, List.flatMap_cons, ← ih k, Nat.add_mul, Nat.one_mul, Nat.add_comm, List.take_append, hf, Nat.add_comm]; simp [hf]; exact List.take_of_length_le (by rw [hf]; omega)
theorem fix_drop (l : List α) (k : Nat) : (l.flatMap f).drop (k * n) = (l.drop k).flatMap f := by
  induction l generalizing k with
  | nil => simp
  | cons x l ih =>
    cases k with
    | zero => simp
    | succ k => rw [List.flatMap_cons, List.drop_succ_cons, ← ih k, Nat.add_mul, Nat.one_mul, Nat.add_comm, List.drop_append, hf]; simp [hf]
theorem fix_get (l : List α) (k : Nat) (h : k < l.length) : ((l.flatMap f).drop (k * n)).take n = f l[k] := by
  rw [fix_drop f n hf, List.drop_eq_getElem_cons h, List.flatMap_cons, List.take_append_of_le_length (by rw [hf]; exact Nat.le_refl _), List.take_of_length_le (by rw [hf]; exact Nat.le_refl _)]
theorem fix_set (l : List α) (k : Nat) (x : α) (h : k < l.length) : (l.flatMap f).take (k * n) ++ f x ++ (l.flatMap f).drop (k * n + n) = (l.set k x).flatMap f := by
  rw [show k * n + n = (k + 1) * n by rw [Nat.add_mul, Nat.one_mul], fix_take f n hf, fix_drop f n hf, List.set_eq_take_append_cons_drop, if_pos h, List.flatMap_append, List.flatMap_cons, List.append_assoc]
end

abbrev B64 := {l : List UInt8 // l.length = 64}
abbrev Sc := B64 × Bool
abbrev Wr := Int × B64
def z64 : B64 := ⟨List.replicate 64 0, by simp⟩
def scell (s : Sc) : List Value := bvs s.1.1 ++ [.bool s.2]
def wcell (x : Wr) : List Value := .int .i64 x.1 :: bvs x.2.1
theorem scell_len (s : Sc) : (scell s).length = 65 := by unfold scell; rw [List.length_append, bvs_length, s.1.2]; rfl
theorem wcell_len (x : Wr) : (wcell x).length = 65 := by unfold wcell; rw [List.length_cons, bvs_length, x.2.2]
def scs (l : List Sc) : List Value := l.flatMap scell
def wcs (l : List Wr) : List Value := l.flatMap wcell
theorem scs_len (l : List Sc) : (scs l).length = l.length * 65 := fix_len _ 65 scell_len l
theorem wcs_len (l : List Wr) : (wcs l).length = l.length * 65 := fix_len _ 65 wcell_len l
theorem scell_one (s : Sc) : ∀ u ∈ scell s, u.oneCell' = true := fun u hu => by
  unfold scell at hu
  rcases List.mem_append.1 hu with h | h
  · exact bvs_one _ u h
  · simp only [List.mem_singleton] at h; subst h; rfl
theorem wcell_one (x : Wr) : ∀ u ∈ wcell x, u.oneCell' = true := fun u hu => by
  unfold wcell at hu
  rcases List.mem_cons.1 hu with h | h
  · subst h; rfl
  · exact bvs_one _ u h
theorem wcs_one (l : List Wr) : ∀ u ∈ wcs l, u.oneCell' = true := fun u hu => by
  obtain ⟨x, _, h⟩ := List.mem_flatMap.1 hu
  exact wcell_one x u h
theorem wcs_app (l m : List Wr) : wcs (l ++ m) = wcs l ++ wcs m := by simp [wcs]

structure Dk where
  s : List Sc
  w : List Wr
  fuse : Int
  dead : Bool

/-- All but three blocks is as it was. -/
structure Turn3 (w w' : World) (g b : Nat) (r : Option Nat) : Prop where
  os : w'.os = w.os
  tape : w'.tape = w.tape
  output : w'.output = w.output
  size : w.heap.size ≤ w'.heap.size
  block : ∀ k, k < w.heap.size → k ≠ g → k ≠ b → some k ≠ r → w'.heap[k]? = w.heap[k]?
theorem Turn3.refl (w : World) (g b : Nat) (r : Option Nat) : Turn3 w w g b r := ⟨rfl, rfl, rfl, Nat.le_refl _, fun _ _ _ _ _ => rfl⟩
theorem Turn3.of_below {w w' : World} (h : Below w.heap.size w w') (g b : Nat) (r : Option Nat) : Turn3 w w' g b r := ⟨h.os, h.tape, h.output, h.size, fun k hk _ _ _ => h.block k hk⟩
/-- A row that is the old one, or a new one. -/
def RowN (w : World) (r r' : Option Nat) : Prop := ∀ k, r' = some k → r = some k ∨ w.heap.size ≤ k
theorem RowN.refl (w : World) (r : Option Nat) : RowN w r r := fun k h => .inl h
theorem RowN.none (w : World) (r : Option Nat) : RowN w r none := fun k h => by cases h
theorem RowN.trans {w w1 : World} {r r1 r2 : Option Nat} (h : RowN w r r1) (h1 : RowN w1 r1 r2) (hz : w.heap.size ≤ w1.heap.size) : RowN w r r2 := fun k hk => by
  rcases h1 k hk with h2 | h2
  · exact h k h2
  · exact .inr (Nat.le_trans hz h2)
theorem Turn3.trans {w w1 w2 : World} {g b : Nat} {r r1 : Option Nat} (h : Turn3 w w1 g b r) (h1 : Turn3 w1 w2 g b r1) (hr : RowN w r r1) : Turn3 w w2 g b r :=
  ⟨h1.os.trans h.os, h1.tape.trans h.tape, h1.output.trans h.output, Nat.le_trans h.size h1.size, fun k hk hg hb hne => (h1.block k (Nat.lt_of_lt_of_le hk h.size) hg hb (fun e => by
    rcases hr k e.symm with h2 | h2
    · exact hne h2.symm
    · omega)).trans (h.block k hk hg hb hne)⟩
theorem Turn3.below {w w' : World} {g b L : Nat} {r : Option Nat} (h : Turn3 w w' g b r) (hg : L ≤ g) (hb : L ≤ b) (hr : ∀ k, r = some k → L ≤ k) (hL : L ≤ w.heap.size) : Below L w w' :=
  ⟨h.os, h.tape, h.output, h.size, fun k hk => h.block k (by omega) (by omega) (by omega) (fun e => by have := hr k e.symm; omega)⟩
theorem Turn3.sets (w : World) (g b j : Nat) (r : Option Nat) (vs : List Value) (o : Nat) (hj : j = g ∨ j = b) : Turn3 w (w.setCells j o vs) g b r := by
  have hb := below_sets (B := j) (b := j) (Nat.le_refl j) vs o (Below.refl j w)
  refine ⟨hb.os, hb.tape, hb.output, hb.size, fun k hk hg hb' _ => ?_⟩
  have hkj : k ≠ j := by rcases hj with rfl | rfl <;> assumption
  have key : ∀ (vs : List Value) (o : Nat) (w : World), (w.setCells j o vs).heap[k]? = w.heap[k]? := fun vs => by
    induction vs with
    | nil => intro o w; rfl
    | cons v vs ih => intro o w; exact (ih (o + 1) _).trans (Below.heap_setCell w ⟨j, o, none⟩ v k hkj)
  exact key vs o w
theorem Turn3.set (w : World) (g b j o : Nat) (r : Option Nat) (v : Value) (hj : j = g ∨ j = b) : Turn3 w (w.setCell ⟨j, o, none⟩ v) g b r := Turn3.sets w g b j r [v] o hj
theorem Turn3.blk {w w' : World} {g b k : Nat} {r : Option Nat} {cs : List Value} (h : Turn3 w w' g b r) (hb : Blk w k cs) (h1 : k ≠ g) (h2 : k ≠ b) (h3 : r ≠ some k) : Blk w' k cs := by
  have hlt := hb.lt
  obtain ⟨t, hb⟩ := hb
  exact ⟨t, (h.block k hlt h1 h2 (fun e => h3 e.symm)).trans hb⟩

/-- Where a disk lies: its own block is g, its sectors' is b, what waits lies in a row at or above L. -/
structure DkAt (w : World) (L g b : Nat) (r : Option Nat) (D : Dk) : Prop where
  at_ : ∃ A c, Blk w g [.slice (some ⟨b, 0, none⟩) D.s.length D.s.length, .slice A D.w.length c, .int .i64 D.fuse, .bool D.dead] ∧ w.ownsRow L 86 65 (.slice A D.w.length c) D.w.length (wcs D.w) ∧ r = (Value.slice A D.w.length c).ownBlock
  secs : Blk w b (scs D.s)
  gb : g ≠ b
  rg : r ≠ some g
  rb : r ≠ some b
  Lg : L ≤ g
  Lb : L ≤ b
theorem DkAt.row {w : World} {L g b : Nat} {r : Option Nat} {D : Dk} (h : DkAt w L g b r D) : ∀ k, r = some k → L ≤ k ∧ k < w.heap.size := by
  obtain ⟨A, c, _, hr, e⟩ := h.at_
  intro k hk
  exact hr.lt k (by rw [← e]; exact hk)
theorem DkAt.lt {w : World} {L g b : Nat} {r : Option Nat} {D : Dk} (h : DkAt w L g b r D) : g < w.heap.size ∧ b < w.heap.size := by
  obtain ⟨A, c, B, _⟩ := h.at_
  exact ⟨B.lt, h.secs.lt⟩
theorem DkAt.later {w w' : World} {L g b : Nat} {r : Option Nat} {D : Dk} (h : DkAt w L g b r D) (hb : Below w.heap.size w w') : DkAt w' L g b r D := by
  obtain ⟨⟨A, c, B, hr, e⟩, h2, h3, h4, h5, h6, h7⟩ := h
  exact ⟨⟨A, c, B.later hb, row_later hr hb, e⟩, h2.later hb, h3, h4, h5, h6, h7⟩
theorem heap_setsD (b k : Nat) (hk : k ≠ b) : ∀ (vs : List Value) (o : Nat) (w : World), (w.setCells b o vs).heap[k]? = w.heap[k]?
  | [], _, _ => rfl
  | v :: vs, o, w => (heap_setsD b k hk vs (o + 1) _).trans (Below.heap_setCell w ⟨b, o, none⟩ v k hk)
theorem row_apartD {w : World} {base n size : Nat} {e : TypeId} {v : Value} {xs : List Value} (h : w.ownsRow base e size v n xs) {b : Nat} (hb : v.ownBlock ≠ some b) (vs : List Value) (o : Nat) : (w.setCells b o vs).ownsRow base e size v n xs := by
  obtain ⟨h1, h2⟩ := h
  refine ⟨h1, h2.imp id fun ⟨k, cap, cur, e1, e2, e3, e4⟩ => ⟨k, cap, cur, e1, e2, (heap_setsD b k (fun e => ?_) vs o w).trans e3, e4⟩⟩
  subst e
  rw [e1] at hb
  exact hb rfl
/-- The fuse, and whether the power is gone, are written. -/
theorem DkAt.setFuse {w : World} {L g b : Nat} {r : Option Nat} {D : Dk} (h : DkAt w L g b r D) (x : Int) : DkAt (w.setCell ⟨g, 2, none⟩ (.int .i64 x)) L g b r { D with fuse := x } := by
  obtain ⟨⟨A, c, B, hr, e⟩, h2, h3, h4, h5, h6, h7⟩ := h
  refine ⟨⟨A, c, ?_, row_apartD hr (by rw [← e]; exact h4) [.int .i64 x] 2, e⟩, h2.setOther 2 _ h3, h3, h4, h5, h6, h7⟩
  have := B.set 2 (.int .i64 x)
  simpa using this
theorem DkAt.setDead {w : World} {L g b : Nat} {r : Option Nat} {D : Dk} (h : DkAt w L g b r D) (x : Bool) : DkAt (w.setCell ⟨g, 3, none⟩ (.bool x)) L g b r { D with dead := x } := by
  obtain ⟨⟨A, c, B, hr, e⟩, h2, h3, h4, h5, h6, h7⟩ := h
  refine ⟨⟨A, c, ?_, row_apartD hr (by rw [← e]; exact h4) [.bool x] 3, e⟩, h2.setOther 3 _ h3, h3, h4, h5, h6, h7⟩
  have := B.set 3 (.bool x)
  simpa using this
/-- Nothing waits any more. -/
theorem DkAt.setNone {w : World} {L g b : Nat} {r : Option Nat} {D : Dk} (h : DkAt w L g b r D) : DkAt (w.setCell ⟨g, 1, none⟩ (.slice none 0 0)) L g b none { D with w := [] } := by
  obtain ⟨⟨A, c, B, hr, e⟩, h2, h3, h4, h5, h6, h7⟩ := h
  refine ⟨⟨none, 0, ?_, World.ownsRow_nil _ _ _ _, rfl⟩, h2.setOther 1 _ h3, h3, by simp, by simp, h6, h7⟩
  have := B.set 1 (.slice none 0 0)
  simpa using this
/-- A sector is written. -/
theorem DkAt.setSec {w : World} {L g b : Nat} {r : Option Nat} {D : Dk} (h : DkAt w L g b r D) (k : Nat) (hk : k < D.s.length) (x : Sc) : DkAt (w.setCells b (k * 65) (scell x)) L g b r { D with s := D.s.set k x } := by
  obtain ⟨⟨A, c, B, hr, e⟩, h2, h3, h4, h5, h6, h7⟩ := h
  refine ⟨⟨A, c, ?_, row_apartD hr (by rw [← e]; exact h5) _ _, e⟩, ?_, h3, h4, h5, h6, h7⟩
  · have := Blk.setsOther (b := b) (g := g) (fun e => h3 e.symm) (scell x) (k * 65) B
    simpa using this
  · have hle : k * 65 + (scell x).length ≤ (scs D.s).length := by rw [scs_len, scell_len]; have := Nat.mul_le_mul_right 65 (Nat.succ_le_of_lt hk); omega
    have := h2.sets (scell x) (k * 65) hle
    rw [scell_len] at this
    unfold scs at this
    rw [fix_set _ 65 scell_len _ _ _ hk] at this
    exact this
end Go.Proofs.Ytncbhpopobjaiaa
