/- Roots: the program's sector of a root. -/
import Derived.Test.YtncbhpopobjaiaaR5
import Derived.Lib.SlBytesConst
namespace Go.Proofs.Ytncbhpopobjaiaa
set_option linter.unusedVariables false
set_option linter.unusedSimpArgs false
open Go Go.RowKit SumM OctM

section
variable {P : Program} {a : Act} {op : Oper} {w : World}
theorem exec_cnv (x : Operand) (t u : TypeId) (ho : op.op = .convert t u x) (v : Value) (hx : a.eval x = v) (r : Value) {w' : World} (h : (convert t u v).run P w = .ok r w') : (execOp a.eval op).run P w = .ok (.value r) w' := by
  unfold execOp
  simp only [ho, hx, Sem.run_bind, h, Result.andThen_ok, Sem.run_pure]
end
theorem wpList_execw {P : Program} {ops : Array Oper} {rest : List Oper} {op : Oper} {a : Act} {w w' : World} {Q : Exit → Act → World → Prop} (hw : Region.wanted op (yielded ops a.tmps) = true) (v : Value) (he : (execOp a.eval op).run P w = .ok (.value v) w')
    (h : wpList P ops Q rest (a.put op.dst v) w') : wpList P ops Q (op :: rest) a w :=
  wpList_step fun K hK => by
    rw [if_pos hw]
    unfold Oper.wp
    rw [he]
    exact hK _ _ h
/-- A slot that holds bytes of the call's own. -/
def relOwn (B n : Nat) (l : List UInt8) : Rel where
  rel v w := ∃ A c, v = .slice A n c ∧ Own w B 5 (.slice A n c) (bvs l)
  mono := fun v w w' h ⟨A, c, e, hs⟩ => ⟨A, c, e, hs.laterO h⟩
  real := fun w ⟨A, c, e, _⟩ => by cases e
theorem gives_own {w : World} {xs : List UInt8} {n B : Nat} (hB : B ≤ w.heap.size) (hn : xs.length = n) {e : Ending} {w' : World} (h : GivesBytes w xs e w') : ∃ v, e = .returned v ∧ Below w.heap.size w w' ∧ (relOwn B n xs).rel v w' := by
  obtain ⟨A, c, rfl, ho, hb⟩ := h
  subst hn
  exact ⟨_, rfl, hb, A, c, rfl, ho.lower hB⟩
theorem run_rname (w : World) : (Instr.buildSlice 62 4 #[(0, .int .u8 114), (1, .int .u8 111), (2, .int .u8 111), (3, .int .u8 116)]).run Try.prog w = .ok (.slice (some ⟨w.heap.size, 0, none⟩) 4 4) (w.alloc (.cells #[.int .u8 114, .int .u8 111, .int .u8 111, .int .u8 116] 5)) := by kernel_rfl
theorem exec_rname {a : Act} {op : Oper} (ho : op.op = .buildSlice 62 4 #[(0, .const (.int .u8 114)), (1, .const (.int .u8 111)), (2, .const (.int .u8 111)), (3, .const (.int .u8 116))]) (w : World) : (execOp a.eval op).run Try.prog w = .ok (.value (.slice (some ⟨w.heap.size, 0, none⟩) 4 4)) (w.alloc (.cells #[.int .u8 114, .int .u8 111, .int .u8 111, .int .u8 116] 5)) := by
  unfold execOp
  simp only [ho, List.map_toArray, List.map_cons, List.map_nil, Act.eval, Sem.run_bind, run_rname, Result.andThen_ok, Sem.run_pure]
theorem marked_sees (w : World) : Sees (w.alloc (.cells #[.int .u8 114, .int .u8 111, .int .u8 111, .int .u8 116] 5 (4, 5))) (w.heap.size + 1) (some ⟨w.heap.size, 0, none⟩) (bvs rname) := sees_lit w _ 5 (4, 5) _ rfl
theorem zeros_bvs (k : Nat) : (Builtin.zeroCells (Value.int .u8 0).cells k).toList = bvs (List.replicate k 0) := by
  apply List.ext_getElem
  · simp [Builtin.zeroCells, bvs, Value.cells]
  · intro j h1 h2
    simp [Builtin.zeroCells, bvs, Value.cells, Nat.mod_one]
    rfl
theorem str_cnv (w : World) (B : Nat) (A : Option Addr) (n c : Nat) (l : List UInt8) (s : ByteArray) (hn : l.length = n) (hs : Sees w B A (bvs l)) (h : s = str l) : (convert 62 9 (.slice A n c)).run Try.prog w = .ok (.string s) w := by
  subst h
  exact run_str (P := Try.prog) w B 62 5 9 Try.underlying62 Try.underlying5 Try.underlying9 A n c l hn hs
set_option maxRecDepth 100000 in
set_option maxHeartbeats 3200000 in
theorem rtput_any (x : Rt) (w : World) : Calls Try.prog 12 #[.agg (rtc x).toArray] w fun e w' => e = .returned (.string (str (rput x))) ∧ Below w.heap.size w w' := by
  obtain ⟨i0, hi, hz0, hz1, hz2⟩ := oct_parts
  have hu := Try.underlying25
  have HCH : Hid (∀ wx : World, Calls Try.prog 9 #[.agg #[.int .i64 x.1, .int .i64 x.2.1, .int .i64 x.2.2]] wx fun e w' => e = .returned (.bool (decide (Rok x))) ∧ Below wx.heap.size wx w') := Lib.hid (fun wx => rtcheck_any x wx)
  obtain ⟨R, hR⟩ : ∃ R, R = str (rput x) := ⟨_, rfl⟩
  have HR0 : Hid (R = str (rput x)) := Lib.hid hR
  rw [← hR]
  have HX : Hid (rpad x = rhead x ++ List.replicate (60 - (rhead x).length) 0) := Lib.hid rfl
  have hlen := rhead_len x
  have HLP := Lib.hid (rpad_len x)
  have HHD : Hid (rhead x = rname ++ enc (held x.1) ++ enc (held x.2.1) ++ enc (held x.2.2)) := Lib.hid rfl
  have hlen1 := held_len x.1
  have hlen2 := held_len x.2.1
  have hlen3 := held_len x.2.2
  generalize hp : rpad x = p at HX HLP
  generalize hh : rhead x = h at HX hlen HHD
  have HP := Lib.hid hp
  have HH := Lib.hid hh
  by_cases hok : Rok x
  · rw [decide_eq_true hok] at HCH
    have HR : Hid (R = str (sealOf p)) := Lib.hid (by rw [hR]; unfold rput; rw [if_pos hok, hp])
    clear hR hp hh hok
    obtain ⟨a, b, c⟩ := x
    dsimp only at HCH HHD hlen1 hlen2 hlen3
    show Calls Try.prog 12 #[.agg #[.int .i64 a, .int .i64 b, .int .i64 c]] w _
    have B1 := Blk.new w [.int .i64 a, .int .i64 b, .int .i64 c] 25
    have RB := B1.range 0 [.int .i64 a, .int .i64 b, .int .i64 c] rfl
    have HB1 := Lib.hid B1
    have HL1 := Lib.hid ((Below.refl w.heap.size w).alloc (Nat.le_refl _) (.cells #[.int .i64 a, .int .i64 b, .int .i64 c] 25))
    clear B1
    go_enter Try.func12, Try.ntmps12
    go_wp2_with (first
      | (refine wpList_load_mid rfl 25 (.tmp 1) rfl w.heap.size 0 rfl [.int .i64 a, .int .i64 b, .int .i64 c] _ RB hu rfl info_rtto ?_
         simp only [Act.put, List.setIfInBounds_toArray, List.set_cons_zero, List.set_cons_succ])
      | fail)
    refine (HCH.out _).mono ?_
    rintro e w1 ⟨rfl, hb1⟩
    have HB2 := Lib.hid (HB1.out.later hb1)
    have HL2 := Lib.hid (HL1.out.trans (hb1.mono HL1.out.size))
    clear hb1 HB1 HL1 RB HCH
    go_wp2_with fail
    have KC : ∀ wx, Le w1 wx → wx.cell? ⟨w.heap.size, 0, none⟩ = some (.int .i64 a) ∧ wx.cell? ⟨w.heap.size, 1, none⟩ = some (.int .i64 b) ∧ wx.cell? ⟨w.heap.size, 2, none⟩ = some (.int .i64 c) := fun wx hl => ⟨(HB2.out.later hl).cell (j := 0) rfl, (HB2.out.later hl).cell (j := 1) rfl, (HB2.out.later hl).cell (j := 2) rfl⟩
    obtain ⟨n1, hn1⟩ : ∃ n1, n1 = (rname ++ enc (held a)).length := ⟨_, rfl⟩
    obtain ⟨n2, hn2⟩ : ∃ n2, n2 = (rname ++ enc (held a) ++ enc (held b)).length := ⟨_, rfl⟩
    obtain ⟨n3, hn3⟩ : ∃ n3, n3 = (rname ++ enc (held a) ++ enc (held b) ++ enc (held c)).length := ⟨_, rfl⟩
    have hrn : rname.length = 4 := rfl
    have hn1b : n1 ≤ 20 := by rw [hn1, List.length_append]; omega
    have hn2b : n2 ≤ 20 := by rw [hn2, List.length_append, List.length_append]; omega
    have HN1 := Lib.hid hn1
    have HN2 := Lib.hid hn2
    have HN3 := Lib.hid hn3
    clear hn1 hn2 hn3
    refine wp_region_held (S := fun wx => wx.cell? ⟨w.heap.size, 0, none⟩ = some (.int .i64 a) ∧ wx.cell? ⟨w.heap.size, 1, none⟩ = some (.int .i64 b) ∧ wx.cell? ⟨w.heap.size, 2, none⟩ = some (.int .i64 c)) (by kernel_rfl) ?_
    show Go.wpAnyH Try.prog Region.Mode.any _ _ _ _ _ _ w1.drew
    have HB3 := Lib.hid HB2.out.drew
    have HL3 := Lib.hid HL2.out.drew
    have KC : ∀ wx, Below w1.drew.heap.size w1.drew wx → wx.cell? ⟨w.heap.size, 0, none⟩ = some (.int .i64 a) ∧ wx.cell? ⟨w.heap.size, 1, none⟩ = some (.int .i64 b) ∧ wx.cell? ⟨w.heap.size, 2, none⟩ = some (.int .i64 c) := fun wx hl => ⟨(HB3.out.later hl).cell (j := 0) rfl, (HB3.out.later hl).cell (j := 1) rfl, (HB3.out.later hl).cell (j := 2) rfl⟩
    generalize w1.drew = wd at HB3 HL3 KC ⊢
    have hS := KC wd (Below.refl _ _)
    refine takeH (i := 2) (oi := _) (v := (.pointer (some ⟨w.heap.size, 0, none⟩))) (fuel := 11) (some 9) rfl rfl (by kernel_rfl) (by kernel_rfl) (by kernel_rfl) (fun _ _ _ h => h) (.inl ⟨by rfl, fun wx hS => by simp [go_sem]⟩) hS ?_
    simp only [Act.put, List.setIfInBounds_toArray, List.set_cons_zero, List.set_cons_succ]
    refine takeH (i := 3) (oi := _) (v := (.int .i64 a)) (fuel := 10) (some 10) rfl rfl (by kernel_rfl) (by kernel_rfl) (by kernel_rfl) (fun _ _ _ h => h) (.inl ⟨by rfl, fun wx hS => by simp [go_sem, hS.1]⟩) hS ?_
    simp only [Act.put, List.setIfInBounds_toArray, List.set_cons_zero, List.set_cons_succ]
    refine takeH (i := 5) (oi := _) (v := (.pointer (some ⟨w.heap.size, 1, none⟩))) (fuel := 9) (some 12) rfl rfl (by kernel_rfl) (by kernel_rfl) (by kernel_rfl) (fun _ _ _ h => h) (.inl ⟨by rfl, fun wx hS => by simp [go_sem]⟩) hS ?_
    simp only [Act.put, List.setIfInBounds_toArray, List.set_cons_zero, List.set_cons_succ]
    refine takeH (i := 6) (oi := _) (v := (.int .i64 b)) (fuel := 8) (some 13) rfl rfl (by kernel_rfl) (by kernel_rfl) (by kernel_rfl) (fun _ _ _ h => h) (.inl ⟨by rfl, fun wx hS => by simp [go_sem, hS.2.1]⟩) hS ?_
    simp only [Act.put, List.setIfInBounds_toArray, List.set_cons_zero, List.set_cons_succ]
    refine takeH (i := 8) (oi := _) (v := (.pointer (some ⟨w.heap.size, 2, none⟩))) (fuel := 7) (some 15) rfl rfl (by kernel_rfl) (by kernel_rfl) (by kernel_rfl) (fun _ _ _ h => h) (.inl ⟨by rfl, fun wx hS => by simp [go_sem]⟩) hS ?_
    simp only [Act.put, List.setIfInBounds_toArray, List.set_cons_zero, List.set_cons_succ]
    refine takeH (i := 9) (oi := _) (v := (.int .i64 c)) (fuel := 6) (some 16) rfl rfl (by kernel_rfl) (by kernel_rfl) (by kernel_rfl) (fun _ _ _ h => h) (.inl ⟨by rfl, fun wx hS => by simp [go_sem, hS.2.2]⟩) hS ?_
    simp only [Act.put, List.setIfInBounds_toArray, List.set_cons_zero, List.set_cons_succ]
    refine allH [0] 0 (fuel := 5) (by kernel_rfl) ?_
    refine runH (some 7) _ rfl rfl (by rfl) (.slice (some ⟨wd.heap.size, 0, none⟩) 4 4) (exec_rname rfl wd) ⟨KC _ ((Below.refl wd.heap.size wd).alloc (Nat.le_refl _) _), ?_⟩
    simp only [Act.put, List.setIfInBounds_toArray, List.set_cons_zero, List.set_cons_succ]
    refine allH [1] 1 (fuel := 4) (by kernel_rfl) ?_
    have LM : Below wd.heap.size wd (wd.alloc (.cells #[.int .u8 114, .int .u8 111, .int .u8 111, .int .u8 116] 5 (4, 5))) := (Below.refl wd.heap.size wd).alloc (Nat.le_refl _) _
    have HCV : (convert 62 62 (.slice (some ⟨wd.heap.size, 0, none⟩) 4 4)).run Try.prog (wd.alloc (.cells #[.int .u8 114, .int .u8 111, .int .u8 111, .int .u8 116] 5)) = .ok (.slice (some ⟨wd.heap.size, 0, none⟩) 4 4) (wd.alloc (.cells #[.int .u8 114, .int .u8 111, .int .u8 111, .int .u8 116] 5 (4, 5))) := Lib.run_convert_bytes_const (P := Try.prog) wd 62 5 #[.int .u8 114, .int .u8 111, .int .u8 111, .int .u8 116] 4 4 Try.underlying62 Try.underlying5
    refine runH (some 8) _ rfl rfl (by rfl) (.slice (some ⟨wd.heap.size, 0, none⟩) 4 4) (exec_cnv (.tmp 7) 62 62 rfl (.slice (some ⟨wd.heap.size, 0, none⟩) 4 4) rfl _ HCV) ⟨KC _ LM, ?_⟩
    simp only [Act.put, List.setIfInBounds_toArray, List.set_cons_zero, List.set_cons_succ]
    have SM := marked_sees wd
    have zM : (wd.alloc (.cells #[.int .u8 114, .int .u8 111, .int .u8 111, .int .u8 116] 5 (4, 5))).heap.size = wd.heap.size + 1 := by simp
    rw [← zM] at SM
    show Go.wpAnyH Try.prog Region.Mode.any _ _ _ _ _ _ (wd.alloc (.cells #[.int .u8 114, .int .u8 111, .int .u8 111, .int .u8 116] 5 (4, 5)))
    generalize wd.alloc (.cells #[.int .u8 114, .int .u8 111, .int .u8 111, .int .u8 116] 5 (4, 5)) = wm at LM SM ⊢
    refine allH [4] 4 (fuel := 3) (by kernel_rfl) ?_
    refine callH (some 11) _ rfl rfl 31 #[.slice (some ⟨wd.heap.size, 0, none⟩) 4 4, .int .i64 a] (by simp [go_sem]) (by rfl) ?_
    refine (oct_num _ 4 4 rname a wm rfl SM (by omega)).mono ?_
    rintro e w4 ⟨A11, c11, rfl, ho4, hb4⟩
    rw [← HN1.out] at ho4 ⊢
    have L4 := LM.trans (hb4.mono LM.size)
    refine ⟨_, rfl, KC _ L4, ?_⟩
    simp only [Act.put, List.setIfInBounds_toArray, List.set_cons_zero, List.set_cons_succ]
    refine allH [7] 7 (fuel := 2) (by kernel_rfl) ?_
    refine callH (some 14) _ rfl rfl 31 #[.slice A11 n1 c11, .int .i64 b] (by simp [go_sem]) (by rfl) ?_
    refine (oct_num A11 n1 c11 (rname ++ enc (held a)) b w4 HN1.out.symm ho4.sees (by omega)).mono ?_
    rintro e w5 ⟨A14, c14, rfl, ho5, hb5⟩
    rw [← HN2.out] at ho5 ⊢
    have L5 := L4.trans (hb5.mono L4.size)
    refine ⟨_, rfl, KC _ L5, ?_⟩
    simp only [Act.put, List.setIfInBounds_toArray, List.set_cons_zero, List.set_cons_succ]
    refine allH [10] 10 (fuel := 1) (by kernel_rfl) ?_
    refine callH (some 17) _ rfl rfl 31 #[.slice A14 n2 c14, .int .i64 c] (by simp [go_sem]) (by rfl) ?_
    refine (oct_num A14 n2 c14 (rname ++ enc (held a) ++ enc (held b)) c w5 HN2.out.symm ho5.sees (by omega)).mono ?_
    rintro e w2 ⟨A17, c17, rfl, ho, hb6⟩
    rw [← HN3.out] at ho ⊢
    have hl := L5.trans (hb6.mono L5.size)
    have ho := ho.lower (Nat.le_trans (show wd.heap.size ≤ wd.heap.size from Nat.le_refl _) L5.size)
    refine ⟨_, rfl, KC _ hl, ?_⟩
    simp only [Act.put, List.setIfInBounds_toArray, List.set_cons_zero, List.set_cons_succ]
    refine allH [11] 11 (fuel := 0) (by kernel_rfl) ?_
    refine runH (some 3) _ rfl rfl (by rfl) (.slice A17 n3 c17) (by simp [go_sem]) ⟨KC _ hl, ?_⟩
    simp only [Act.put, List.setIfInBounds_toArray, List.set_cons_zero, List.set_cons_succ]
    refine wpAnyH_done (by kernel_rfl) ?_ 0
    clear ho4 ho5 hb4 hb5 hb6 L4 L5 LM SM zM hS
    have hln : n3 = h.length := by rw [HN3.out, HHD.out]
    have hob : Own w2 wd.heap.size 5 (.slice A17 n3 c17) (bvs h) := by rw [HHD.out]; exact ho
    obtain ⟨g3, rfl, hg3⟩ := hob.block (by rw [hln, HHD.out]; simp [rname])
    have HOB := Lib.hid hob
    have HL4 := Lib.hid (HL3.out.trans (hl.mono HL3.out.size))
    obtain ⟨k, hk⟩ : ∃ k, n3 + k = 60 := ⟨60 - n3, by omega⟩
    have hki : (60 : Int) - (n3 : Int) = (k : Int) := by omega
    have HXP : Hid (p = h ++ List.replicate k 0) := Lib.hid (by rw [HX.out]; congr 2; omega)
    have HBL : Hid ((bvs h).length = n3) := Lib.hid (by rw [bvs_length]; exact hln.symm)
    have hown : w2.ownsRow wd.heap.size 5 1 (.slice (some ⟨g3, 0, none⟩) n3 c17) n3 (bvs h) := by
      have := HOB.out
      unfold Own at this
      rw [HBL.out] at this
      exact this
    obtain ⟨g4, c4, w4, hr4, ho4, hgr4, hat4⟩ := run_appz (P := Try.prog) w2 wd.heap.size 62 3 62 5 i0 (.int .u8 0) .i64 .i64 1 1 Try.underlying62 Try.underlying3 hi hz0 hz1 hz2 rfl (by omega) g3 n3 c17 (bvs h) hown k (by omega) (by rw [zeros_bvs]; exact bvs_one _) (by unfold maxLen; omega) (by omega) hl.size
    rw [zeros_bvs] at ho4
    have hb4 : Below wd.heap.size w2 w4 := (Below.refl wd.heap.size w2).grown hgr4 hl.size (fun j hj => by injection hj with hj; omega)
    have HL5 := Lib.hid (HL4.out.trans (hb4.mono HL3.out.size))
    have HO4 : Hid (Own w4 wd.heap.size 5 (.slice (some ⟨g4, 0, none⟩) 60 c4) (bvs p)) := Lib.hid (by
      have e : bvs h ++ bvs (List.replicate k 0) = bvs p := by rw [HXP.out]; simp [bvs]
      rw [e, hk] at ho4
      unfold Own
      rw [bvs_length, HLP.out]
      exact ho4)
    rw [hk] at hr4
    have HR4 := Lib.hid hr4
    have hsees := HO4.out.sees
    have HSL := Lib.hid (seal_any (some ⟨g4, 0, none⟩) 60 c4 p w4 w4.heap.size HLP.out hsees (Nat.le_refl _) (by omega))
    clear hln hr4 hsees ho4 hgr4 hat4 hb4 hown hob ho hl KC HCV HOB hk HX HXP HBL
    have hkk : k = k := rfl
    go_wp2_with (first
      | (refine wpList_execw (by rfl) (.slice (some ⟨g4, 0, none⟩) 60 c4) (exec_appz (.tmp 18) (.tmp 21) 62 3 rfl (.slice (some ⟨g3, 0, none⟩) n3 c17) (.int .i64 (k : Int)) _ rfl rfl HR4.out) ?_
         simp only [Act.put, List.setIfInBounds_toArray, List.set_cons_zero, List.set_cons_succ])
      | fail)
    refine HSL.out.mono ?_
    rintro e w5 ⟨A5, c5, rfl, ho5, hb5⟩
    have HL6 := Lib.hid (HL5.out.trans (hb5.mono HL5.out.size))
    have HCV5 := Lib.hid (str_cnv w5 w5.heap.size A5 64 c5 (sealOf p) R (by simp [sealOf, le4_length, HLP.out]) ho5.sees HR.out)
    clear ho5 hb5
    go_wp2_with (first
      | (refine wpList_execw (by rfl) (.string R) (exec_cnv (.tmp 24) 62 9 rfl (.slice A5 64 c5) rfl (.string R) HCV5.out) ?_
         simp only [Act.put, List.setIfInBounds_toArray, List.set_cons_zero, List.set_cons_succ])
      | fail)
    go_ret
    exact ⟨rfl, HL6.out⟩
  · rw [decide_eq_false hok] at HCH
    have HR : Hid (R = ⟨#[]⟩) := Lib.hid (by rw [hR]; unfold rput; rw [if_neg hok]; rfl)
    clear hR hp hh hok
    obtain ⟨a, b, c⟩ := x
    dsimp only at HCH
    show Calls Try.prog 12 #[.agg #[.int .i64 a, .int .i64 b, .int .i64 c]] w _
    have RB := (Blk.new w [.int .i64 a, .int .i64 b, .int .i64 c] 25).range 0 [.int .i64 a, .int .i64 b, .int .i64 c] rfl
    have HL1 := Lib.hid ((Below.refl w.heap.size w).alloc (Nat.le_refl _) (.cells #[.int .i64 a, .int .i64 b, .int .i64 c] 25))
    go_enter Try.func12, Try.ntmps12
    go_wp2_with (first
      | (refine wpList_load_mid rfl 25 (.tmp 1) rfl w.heap.size 0 rfl [.int .i64 a, .int .i64 b, .int .i64 c] _ RB hu rfl info_rtto ?_
         simp only [Act.put, List.setIfInBounds_toArray, List.set_cons_zero, List.set_cons_succ])
      | fail)
    refine (HCH.out _).mono ?_
    rintro e w1 ⟨rfl, hb1⟩
    have HL2 := Lib.hid (HL1.out.trans (hb1.mono HL1.out.size))
    clear hb1
    go_wp2_with fail
    go_ret
    exact ⟨by rw [HR.out]; rfl, HL2.out⟩
end Go.Proofs.Ytncbhpopobjaiaa
