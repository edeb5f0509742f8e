/- Roots: Store: both. -/
import Derived.Test.YtncbhpopobjaiaaR13
import Derived.Test.YtncbhpopobjaiaaR12
import Derived.Test.YtncbhpopobjaiaaR4
import Derived.Test.YtncbhpopobjaiaaR10
namespace Go.Proofs.Ytncbhpopobjaiaa
set_option linter.unusedVariables false
set_option linter.unusedSimpArgs false
open Go Go.RowKit SumM OctM

def rstore (D : Dk) (x : Rt) : Dk × Int :=
  if Rok x ∧ 2 ≤ D.s.length then (if (dwrite D (x.1 % 2) (rput x)).2 = 0 then dsync (dwrite D (x.1 % 2) (rput x)).1 else dwrite D (x.1 % 2) (rput x)) else (D, 1)
theorem exec_rem2 {o : Oper} {a : Act} {w : World} (x y : Operand) (u : TypeId) (ho : o.op = .binOp .rem 3 x y u) (z oc : Int) (hx : a.eval x = .int .i64 z) (hy : a.eval y = .int .i64 2) (t1 : Int.tmod z 2 = oc) : (execOp a.eval o).run Try.prog w = .ok (.value (.int .i64 oc)) w := by
  unfold execOp
  generalize a.eval = ρ at hx hy
  simp [go_sem, ho, hx, hy, t1]
theorem dwrite_bits (D : Dk) (a : Int) (l : List UInt8) (hin : DIn D) (hf : -9223372036854775808 ≤ D.fuse ∧ D.fuse ≤ 9223372036854775807) :
    DIn (dwrite D a l).1 ∧ (-9223372036854775808 ≤ (dwrite D a l).1.fuse ∧ (dwrite D a l).1.fuse ≤ 9223372036854775807) ∧ (dwrite D a l).1.w.length ≤ D.w.length + 1 ∧ (dwrite D a l).1.s.length = D.s.length := by
  refine ⟨hin.write _ _, ?_⟩
  unfold dwrite
  split
  · exact ⟨hf, Nat.le_succ _, rfl⟩
  · split
    · refine ⟨dstep_fuse _ hf, ?_, ?_⟩
      · rw [(dstep_s _).2]; simp
      · rw [(dstep_s _).1]
    · exact ⟨hf, Nat.le_succ _, rfl⟩
theorem dsync_bits (D : Dk) (hin : DIn D) (hf : -9223372036854775808 ≤ D.fuse ∧ D.fuse ≤ 9223372036854775807) :
    DIn (dsync D).1 ∧ (-9223372036854775808 ≤ (dsync D).1.fuse ∧ (dsync D).1.fuse ≤ 9223372036854775807) ∧ (dsync D).1.w.length ≤ D.w.length ∧ (dsync D).1.s.length = D.s.length := by
  refine ⟨hin.sync, ?_⟩
  unfold dsync
  split
  · exact ⟨hf, Nat.le_refl _, rfl⟩
  · split
    · exact ⟨dstep_fuse _ hf, by simp, dall_len _ _⟩
    · refine ⟨dstep_fuse _ hf, ?_, ?_⟩
      · rw [(dstep_s _).2]; omega
      · rw [(dstep_s _).1]
theorem rstore_bits (D : Dk) (x : Rt) (hin : DIn D) (hf : -9223372036854775808 ≤ D.fuse ∧ D.fuse ≤ 9223372036854775807) :
    DIn (rstore D x).1 ∧ (-9223372036854775808 ≤ (rstore D x).1.fuse ∧ (rstore D x).1.fuse ≤ 9223372036854775807) ∧ (rstore D x).1.w.length ≤ D.w.length + 1 ∧ (rstore D x).1.s.length = D.s.length := by
  have h1 := dwrite_bits D (x.1 % 2) (rput x) hin hf
  unfold rstore
  split
  · split
    · have h2 := dsync_bits _ h1.1 h1.2.1
      exact ⟨h2.1, h2.2.1, Nat.le_trans h2.2.2.1 h1.2.2.1, h2.2.2.2.trans h1.2.2.2⟩
    · exact h1
  · exact ⟨hin, hf, Nat.le_succ _, rfl⟩
set_option maxRecDepth 100000 in
set_option maxHeartbeats 6400000 in
theorem store_any (L g b : Nat) (r : Option Nat) (D : Dk) (x : Rt) (w : World) (h : DkAt w L g b r D) (hin : DIn D) (hf : -9223372036854775808 ≤ D.fuse ∧ D.fuse ≤ 9223372036854775807) (hw : D.w.length ≤ 65000) (hs : D.s.length ≤ 2048) (hL : L ≤ w.heap.size) :
    Calls Try.prog 17 #[.pointer (some ⟨g, 0, none⟩), .agg (rtc x).toArray] w fun e w' => e = .returned (.int .i64 (rstore D x).2) ∧ ∃ r', DkAt w' L g b r' (rstore D x).1 ∧ Turn3 w w' g b r ∧ RowN w r r' := by
  have hu := Try.underlying25
  have hpl : (rput x).length ≤ maxLen := by
    unfold rput maxLen
    split
    · simp [sealOf, rpad_len, le4_length]
    · simp
  have HAT : Hid (∀ wx, Below w.heap.size w wx → DkAt wx L g b r D) := Lib.hid (fun wx hb => h.later hb)
  have HL := Lib.hid hL
  have HCH : Hid (∀ wx : World, Calls Try.prog 9 #[.agg #[.int .i64 x.1, .int .i64 x.2.1, .int .i64 x.2.2]] wx fun e w' => e = .returned (.bool (decide (Rok x))) ∧ Below wx.heap.size wx w') := Lib.hid (fun wx => rtcheck_any x wx)
  obtain ⟨sp, hsp⟩ : ∃ sp, sp = str (rput x) := ⟨_, rfl⟩
  have HPT : Hid (∀ wx : World, Calls Try.prog 12 #[.agg #[.int .i64 x.1, .int .i64 x.2.1, .int .i64 x.2.2]] wx fun e w' => e = .returned (.string sp) ∧ Below wx.heap.size wx w') := Lib.hid (fun wx => by rw [hsp]; exact rtput_any x wx)
  have HWR : Hid (∀ wx, DkAt wx L g b r D → L ≤ wx.heap.size → Calls Try.prog 22 #[.pointer (some ⟨g, 0, none⟩), .int .i64 (x.1 % 2), .string sp] wx fun e w' => e = .returned (.int .i64 (dwrite D (x.1 % 2) (rput x)).2) ∧ ∃ r', DkAt w' L g b r' (dwrite D (x.1 % 2) (rput x)).1 ∧ Turn3 wx w' g b r ∧ RowN wx r r') := Lib.hid (fun wx hh hz => by rw [hsp]; exact write_any L g b r D (x.1 % 2) (rput x) wx hh hf hpl (by omega) hz)
  have hbits := dwrite_bits D (x.1 % 2) (rput x) hin hf
  have HSZ : Hid (∀ wx, Below w.heap.size w wx → Calls Try.prog 36 #[.pointer (some ⟨g, 0, none⟩)] wx fun e w' => e = .returned (.int .i64 (D.s.length : Int)) ∧ wx = w') := Lib.hid (fun wx hb => size_any L g b r D wx (h.later hb))
  have HSY : Hid (∀ wx r', DkAt wx L g b r' (dwrite D (x.1 % 2) (rput x)).1 → L ≤ wx.heap.size → Calls Try.prog 37 #[.pointer (some ⟨g, 0, none⟩)] wx fun e w' => e = .returned (.int .i64 (dsync (dwrite D (x.1 % 2) (rput x)).1).2) ∧ ∃ r'', DkAt w' L g b r'' (dsync (dwrite D (x.1 % 2) (rput x)).1).1 ∧ Turn3 wx w' g b r' ∧ RowN wx r' r'') := Lib.hid (fun wx r' hh hz => sync_any L g b r' _ wx hh hbits.1 hbits.2.1 (by have := hbits.2.2.1; omega) hz)
  have HNO : Hid (¬ (Rok x ∧ 2 ≤ D.s.length) → rstore D x = (D, 1)) := Lib.hid (fun e => by unfold rstore; rw [if_neg e])
  have HWE : Hid (Rok x → 2 ≤ D.s.length → (dwrite D (x.1 % 2) (rput x)).2 ≠ 0 → rstore D x = dwrite D (x.1 % 2) (rput x)) := Lib.hid (fun e1 e2 e3 => by unfold rstore; rw [if_pos ⟨e1, e2⟩, if_neg e3])
  have HSE : Hid (Rok x → 2 ≤ D.s.length → (dwrite D (x.1 % 2) (rput x)).2 = 0 → rstore D x = dsync (dwrite D (x.1 % 2) (rput x)).1) := Lib.hid (fun e1 e2 e3 => by unfold rstore; rw [if_pos ⟨e1, e2⟩, if_pos e3])
  obtain ⟨ns, hns⟩ : ∃ ns, ns = D.s.length := ⟨_, rfl⟩
  rw [← hns] at HNO HWE HSE HSZ
  generalize dwrite D (x.1 % 2) (rput x) = D1 at HWR HSY HWE HSE hbits
  obtain ⟨D1, e1⟩ := D1
  dsimp only at HWR HSY HWE HSE
  clear hsp hpl hbits h hin hf hw hs hL hns
  by_cases hok : Rok x
  · rw [decide_eq_true hok] at HCH
    have h1 : 0 ≤ x.1 := by have := hok.1; omega
    have HTM : Hid (Int.tmod x.1 2 = x.1 % 2) := Lib.hid (Int.tmod_eq_emod_of_nonneg h1)
    have HOK := Lib.hid hok
    clear hok h1
    obtain ⟨a, b', c⟩ := x
    dsimp only at HTM
    generalize hrm : a % 2 = rm at HTM HWR
    clear hrm
    show Calls Try.prog 17 #[.pointer (some ⟨g, 0, none⟩), .agg #[.int .i64 a, .int .i64 b', .int .i64 c]] w _
    have B1 := Blk.new w [.int .i64 a, .int .i64 b', .int .i64 c] 25
    have RB := B1.range 0 [.int .i64 a, .int .i64 b', .int .i64 c] rfl
    have HB1 := Lib.hid B1
    have HL1 := Lib.hid ((Below.refl w.heap.size w).alloc (Nat.le_refl _) (.cells #[.int .i64 a, .int .i64 b', .int .i64 c] 25))
    clear B1
    by_cases h2 : 2 ≤ ns
    · have d2 : decide ((ns : Int) < 2) = false := decide_eq_false (by omega)
      have H2 := Lib.hid h2
      clear h2 HNO
      go_enter Try.func17, Try.ntmps17
      go_wp2_with (first
        | (have RB1 := RB
           refine wpList_load_mid rfl 25 (.tmp 3) rfl w.heap.size 0 rfl [.int .i64 a, .int .i64 b', .int .i64 c] _ RB1 hu rfl info_rtto ?_
           simp only [Act.put, List.setIfInBounds_toArray, List.set_cons_zero, List.set_cons_succ]
           clear RB RB1)
        | fail)
      refine (HCH.out _).mono ?_
      rintro e w2 ⟨rfl, hb2⟩
      have HB2 := Lib.hid (HB1.out.later hb2)
      have HL2 := Lib.hid (HL1.out.trans (hb2.mono HL1.out.size))
      clear hb2 HCH HB1 HL1
      have HSC := Lib.hid (HSZ.out w2 HL2.out)
      go_wp2_with fail
      refine HSC.out.mono ?_
      rintro e wa ⟨rfl, rfl⟩
      go_wp2_with fail
      have KC : ∀ wx, Le w2 wx → wx.cell? ⟨w.heap.size, 0, none⟩ = some (.int .i64 a) := fun wx hl => (HB2.out.later hl).cell (j := 0) rfl
      refine wp_region_tail [] 28 6 (by kernel_rfl) (by kernel_rfl) (by kernel_rfl) (by rfl) ?_
      simp only [List.take_succ_cons, List.take_zero, List.drop_succ_cons, List.drop_zero]
      iterate 2 (refine wpG_quiet (by rfl) (by rfl) (by rfl) (fun K hK => ?_); go_big_quiet_op; refine hK _ ?_; clear hK K)
      refine wpG_run (by rfl) (by rfl) (.int .i64 a) (fun wx hl => by have := KC wx hl.1; simp [go_sem, this]) ?_
      simp only [Act.put, List.setIfInBounds_toArray, List.set_cons_zero, List.set_cons_succ]
      refine wpG_run (by rfl) (by rfl) (.int .i64 rm) (fun wx hl => exec_rem2 (.tmp 18) (.const (.int .i64 2)) _ rfl a rm rfl rfl HTM.out) ?_
      simp only [Act.put, List.setIfInBounds_toArray, List.set_cons_zero, List.set_cons_succ]
      refine wpG_run (by rfl) (by rfl) (.agg #[.int .i64 a, .int .i64 b', .int .i64 c]) (fun wx hl => exec_load 25 (.tmp 3) rfl w.heap.size 0 rfl [.int .i64 a, .int .i64 b', .int .i64 c] _ ((HB2.out.later hl.1).range 0 _ rfl) hu rfl info_rtto) ?_
      simp only [Act.put, List.setIfInBounds_toArray, List.set_cons_zero, List.set_cons_succ]
      refine wpG_call (by rfl) (by rfl) 12 #[.agg #[.int .i64 a, .int .i64 b', .int .i64 c]] (.string sp) (by intro _; simp [go_sem]) (by kernel_rfl) (fun wx _ => HPT.out wx) ?_
      simp only [Act.put, List.setIfInBounds_toArray, List.set_cons_zero, List.set_cons_succ]
      refine wpG_nil fun w3 hl _ => ?_
      have HL3 := Lib.hid (HL2.out.trans (hl.mono HL2.out.size))
      clear hl KC HB2 HL2 HPT
      go_wp2_with fail
      refine (HWR.out w3 (HAT.out w3 HL3.out) (Nat.le_trans HL.out HL3.out.size)).mono ?_
      rintro e w4 ⟨rfl, r4, H4, T4, R4⟩
      clear HWR
      by_cases he : e1 = 0
      · subst he
        have HSE1 := Lib.hid (HSE.out HOK.out H2.out rfl)
        clear HSE HWE
        have H4 := Lib.hid H4
        have T4 := Lib.hid ((Turn3.of_below HL3.out g b r).trans T4 (RowN.refl _ _))
        have R4 : Hid (RowN w r r4) := Lib.hid (fun k hk => by
          rcases R4 k hk with e | e
          · exact .inl e
          · exact .inr (Nat.le_trans HL3.out.size e))
        go_wp2_with fail
        refine (HSY.out w4 r4 H4.out (Nat.le_trans HL.out T4.out.size)).mono ?_
        rintro e w5 ⟨rfl, r5, H5, T5, R5⟩
        have H5 := Lib.hid H5
        have T5 := Lib.hid (T4.out.trans T5 R4.out)
        have R5 := Lib.hid (R4.out.trans R5 T4.out.size)
        go_wp2_with fail
        go_ret
        exact ⟨by rw [HSE1.out]; rfl, r5, by rw [HSE1.out]; exact H5.out, T5.out, R5.out⟩
      · have ne : (e1 != 0) = true := by rw [bne_iff_ne]; exact he
        have HWE1 := Lib.hid (HWE.out HOK.out H2.out he)
        clear HSE HWE he HSY
        have H4 := Lib.hid H4
        have T4 := Lib.hid ((Turn3.of_below HL3.out g b r).trans T4 (RowN.refl _ _))
        have R4 : Hid (RowN w r r4) := Lib.hid (fun k hk => by
          rcases R4 k hk with e | e
          · exact .inl e
          · exact .inr (Nat.le_trans HL3.out.size e))
        go_wp2_with fail
        go_ret
        exact ⟨by rw [HWE1.out]; rfl, r4, by rw [HWE1.out]; exact H4.out, T4.out, R4.out⟩
    · have d2 : decide ((ns : Int) < 2) = true := decide_eq_true (by omega)
      have HNO1 := Lib.hid (HNO.out (fun e => h2 e.2))
      clear h2 HNO HWE HSE
      go_enter Try.func17, Try.ntmps17
      go_wp2_with (first
        | (have RB1 := RB
           refine wpList_load_mid rfl 25 (.tmp 3) rfl w.heap.size 0 rfl [.int .i64 a, .int .i64 b', .int .i64 c] _ RB1 hu rfl info_rtto ?_
           simp only [Act.put, List.setIfInBounds_toArray, List.set_cons_zero, List.set_cons_succ]
           clear RB RB1)
        | fail)
      refine (HCH.out _).mono ?_
      rintro e w2 ⟨rfl, hb2⟩
      have HL2 := Lib.hid (HL1.out.trans (hb2.mono HL1.out.size))
      clear hb2 HCH HB1 HL1
      have HSC := Lib.hid (HSZ.out w2 HL2.out)
      go_wp2_with fail
      refine HSC.out.mono ?_
      rintro e wa ⟨rfl, rfl⟩
      go_wp2_with fail
      go_ret
      exact ⟨by rw [HNO1.out]; rfl, r, by rw [HNO1.out]; exact HAT.out w2 HL2.out, Turn3.of_below HL2.out g b r, RowN.refl _ _⟩
  · rw [decide_eq_false hok] at HCH
    have HNO1 := Lib.hid (HNO.out (fun e => hok e.1))
    clear hok HNO HWE HSE HWR HPT HSY
    obtain ⟨a, b', c⟩ := x
    show Calls Try.prog 17 #[.pointer (some ⟨g, 0, none⟩), .agg #[.int .i64 a, .int .i64 b', .int .i64 c]] w _
    have RB := (Blk.new w [.int .i64 a, .int .i64 b', .int .i64 c] 25).range 0 [.int .i64 a, .int .i64 b', .int .i64 c] rfl
    have HL1 := Lib.hid ((Below.refl w.heap.size w).alloc (Nat.le_refl _) (.cells #[.int .i64 a, .int .i64 b', .int .i64 c] 25))
    go_enter Try.func17, Try.ntmps17
    go_wp2_with (first
      | (have RB1 := RB
         refine wpList_load_mid rfl 25 (.tmp 3) rfl w.heap.size 0 rfl [.int .i64 a, .int .i64 b', .int .i64 c] _ RB1 hu rfl info_rtto ?_
         simp only [Act.put, List.setIfInBounds_toArray, List.set_cons_zero, List.set_cons_succ]
         clear RB RB1)
      | fail)
    refine (HCH.out _).mono ?_
    rintro e w2 ⟨rfl, hb2⟩
    have HL2 := Lib.hid (HL1.out.trans (hb2.mono HL1.out.size))
    clear hb2 HCH HL1
    go_wp2_with fail
    go_ret
    exact ⟨by rw [HNO1.out]; rfl, r, by rw [HNO1.out]; exact HAT.out w2 HL2.out, Turn3.of_below HL2.out g b r, RowN.refl _ _⟩
set_option maxRecDepth 100000 in
set_option maxHeartbeats 6400000 in
theorem rrstore_any (L m : Nat) (q p : Option Nat) (D : Dk) (x : Rt) (w : World) (h : RfAt w L m q p D) (hin : DIn D) (hf : -9223372036854775808 ≤ D.fuse ∧ D.fuse ≤ 9223372036854775807) (hw : D.w.length ≤ 65000) (hs : D.s.length ≤ 2048) (hL : L ≤ w.heap.size) :
    Calls Try.prog 18 #[.pointer (some ⟨m, 0, none⟩), .agg (rtc x).toArray] w fun e w' => e = .returned (.int .i64 (rstore D x).2) ∧ ∃ q' p', RfAt w' L m q' p' (rstore D x).1 ∧ Turn3 w w' m m none ∧ RowN w q q' ∧ RowN w p p' := by
  have hu := Try.underlying23
  have hpl : (rput x).length ≤ maxLen := by
    unfold rput maxLen
    split
    · simp [sealOf, rpad_len, le4_length]
    · simp
  have HAT : Hid (∀ wx, Below w.heap.size w wx → RfAt wx L m q p D) := Lib.hid (fun wx hb => h.later hb)
  have HL := Lib.hid hL
  have HCH : Hid (∀ wx : World, Calls Try.prog 11 #[.agg #[.int .i64 x.1, .int .i64 x.2.1, .int .i64 x.2.2]] wx fun e w' => e = .returned (.bool (decide (Rok x))) ∧ Below wx.heap.size wx w') := Lib.hid (fun wx => rrtcheck_any x wx)
  obtain ⟨sp, hsp⟩ : ∃ sp, sp = str (rput x) := ⟨_, rfl⟩
  have HPT : Hid (∀ wx : World, Calls Try.prog 13 #[.agg #[.int .i64 x.1, .int .i64 x.2.1, .int .i64 x.2.2]] wx fun e w' => e = .returned (.string sp) ∧ Below wx.heap.size wx w') := Lib.hid (fun wx => by rw [hsp]; exact rrtput_any x wx)
  have HWR : Hid (∀ wx, RfAt wx L m q p D → L ≤ wx.heap.size → Calls Try.prog 23 #[.pointer (some ⟨m, 0, none⟩), .int .i64 (x.1 % 2), .string sp] wx fun e w' => e = .returned (.int .i64 (dwrite D (x.1 % 2) (rput x)).2) ∧ ∃ p', RfAt w' L m q p' (dwrite D (x.1 % 2) (rput x)).1 ∧ Turn3 wx w' m m none ∧ RowN wx p p') := Lib.hid (fun wx hh hz => by rw [hsp]; exact rwrite_any L m q p D (x.1 % 2) (rput x) wx hh hf hpl (by omega) (by omega) hz)
  have hbits := dwrite_bits D (x.1 % 2) (rput x) hin hf
  have HSZ : Hid (∀ wx, Below w.heap.size w wx → ∃ A c, wx.cell? ⟨m, 0, none⟩ = some (.slice A D.s.length c)) := Lib.hid (fun wx hb => by
    obtain ⟨A, c, A', c', k0, _⟩ := (h.later hb).cells
    exact ⟨A, c, k0⟩)
  have HSY : Hid (∀ wx q' p', RfAt wx L m q' p' (dwrite D (x.1 % 2) (rput x)).1 → L ≤ wx.heap.size → Calls Try.prog 38 #[.pointer (some ⟨m, 0, none⟩)] wx fun e w' => e = .returned (.int .i64 (dsync (dwrite D (x.1 % 2) (rput x)).1).2) ∧ ∃ q'' p'', RfAt w' L m q'' p'' (dsync (dwrite D (x.1 % 2) (rput x)).1).1 ∧ Turn3 wx w' m m none ∧ RowN wx q' q'' ∧ RowN wx p' p'') := Lib.hid (fun wx q' p' hh hz => rsync_any L m q' p' _ wx hh hbits.1 hbits.2.1 (by have := hbits.2.2.1; omega) (by have := hbits.2.2.2; omega) hz)
  have HNO : Hid (¬ (Rok x ∧ 2 ≤ D.s.length) → rstore D x = (D, 1)) := Lib.hid (fun e => by unfold rstore; rw [if_neg e])
  have HWE : Hid (Rok x → 2 ≤ D.s.length → (dwrite D (x.1 % 2) (rput x)).2 ≠ 0 → rstore D x = dwrite D (x.1 % 2) (rput x)) := Lib.hid (fun e1 e2 e3 => by unfold rstore; rw [if_pos ⟨e1, e2⟩, if_neg e3])
  have HSE : Hid (Rok x → 2 ≤ D.s.length → (dwrite D (x.1 % 2) (rput x)).2 = 0 → rstore D x = dsync (dwrite D (x.1 % 2) (rput x)).1) := Lib.hid (fun e1 e2 e3 => by unfold rstore; rw [if_pos ⟨e1, e2⟩, if_pos e3])
  obtain ⟨ns, hns⟩ : ∃ ns, ns = D.s.length := ⟨_, rfl⟩
  rw [← hns] at HNO HWE HSE HSZ
  generalize dwrite D (x.1 % 2) (rput x) = D1 at HWR HSY HWE HSE hbits
  obtain ⟨D1, e1⟩ := D1
  dsimp only at HWR HSY HWE HSE
  clear hsp hpl hbits h hin hf hw hs hL hns
  by_cases hok : Rok x
  · rw [decide_eq_true hok] at HCH
    have h1 : 0 ≤ x.1 := by have := hok.1; omega
    have HTM : Hid (Int.tmod x.1 2 = x.1 % 2) := Lib.hid (Int.tmod_eq_emod_of_nonneg h1)
    have HOK := Lib.hid hok
    clear hok h1
    obtain ⟨a, b', c⟩ := x
    dsimp only at HTM
    generalize hrm : a % 2 = rm at HTM HWR
    clear hrm
    show Calls Try.prog 18 #[.pointer (some ⟨m, 0, none⟩), .agg #[.int .i64 a, .int .i64 b', .int .i64 c]] w _
    have B1 := Blk.new w [.int .i64 a, .int .i64 b', .int .i64 c] 23
    have RB := B1.range 0 [.int .i64 a, .int .i64 b', .int .i64 c] rfl
    have HB1 := Lib.hid B1
    have HL1 := Lib.hid ((Below.refl w.heap.size w).alloc (Nat.le_refl _) (.cells #[.int .i64 a, .int .i64 b', .int .i64 c] 23))
    clear B1
    by_cases h2 : 2 ≤ ns
    · have d2 : decide ((ns : Int) < 2) = false := decide_eq_false (by omega)
      have H2 := Lib.hid h2
      clear h2 HNO
      go_enter Try.func18, Try.ntmps18
      go_wp2_with (first
        | (have RB1 := RB
           refine wpList_load_mid rfl 23 (.tmp 3) rfl w.heap.size 0 rfl [.int .i64 a, .int .i64 b', .int .i64 c] _ RB1 hu rfl info_rtfrom ?_
           simp only [Act.put, List.setIfInBounds_toArray, List.set_cons_zero, List.set_cons_succ]
           clear RB RB1)
        | fail)
      refine (HCH.out _).mono ?_
      rintro e w2 ⟨rfl, hb2⟩
      have HB2 := Lib.hid (HB1.out.later hb2)
      have HL2 := Lib.hid (HL1.out.trans (hb2.mono HL1.out.size))
      clear hb2 HCH HB1 HL1
      have ks := (HSZ.out w2 HL2.out)
      obtain ⟨A9, c9, ks⟩ := ks
      go_wp2_with fail
      clear ks
      have KC : ∀ wx, Le w2 wx → wx.cell? ⟨w.heap.size, 0, none⟩ = some (.int .i64 a) := fun wx hl => (HB2.out.later hl).cell (j := 0) rfl
      refine wp_region_tail [] 29 6 (by kernel_rfl) (by kernel_rfl) (by kernel_rfl) (by rfl) ?_
      simp only [List.take_succ_cons, List.take_zero, List.drop_succ_cons, List.drop_zero]
      iterate 2 (refine wpG_quiet (by rfl) (by rfl) (by rfl) (fun K hK => ?_); go_big_quiet_op; refine hK _ ?_; clear hK K)
      refine wpG_run (by rfl) (by rfl) (.int .i64 a) (fun wx hl => by have := KC wx hl.1; simp [go_sem, this]) ?_
      simp only [Act.put, List.setIfInBounds_toArray, List.set_cons_zero, List.set_cons_succ]
      refine wpG_run (by rfl) (by rfl) (.int .i64 rm) (fun wx hl => exec_rem2 (.tmp 19) (.const (.int .i64 2)) _ rfl a rm rfl rfl HTM.out) ?_
      simp only [Act.put, List.setIfInBounds_toArray, List.set_cons_zero, List.set_cons_succ]
      refine wpG_run (by rfl) (by rfl) (.agg #[.int .i64 a, .int .i64 b', .int .i64 c]) (fun wx hl => exec_load 23 (.tmp 3) rfl w.heap.size 0 rfl [.int .i64 a, .int .i64 b', .int .i64 c] _ ((HB2.out.later hl.1).range 0 _ rfl) hu rfl info_rtfrom) ?_
      simp only [Act.put, List.setIfInBounds_toArray, List.set_cons_zero, List.set_cons_succ]
      refine wpG_call (by rfl) (by rfl) 13 #[.agg #[.int .i64 a, .int .i64 b', .int .i64 c]] (.string sp) (by intro _; simp [go_sem]) (by kernel_rfl) (fun wx _ => HPT.out wx) ?_
      simp only [Act.put, List.setIfInBounds_toArray, List.set_cons_zero, List.set_cons_succ]
      refine wpG_nil fun w3 hl _ => ?_
      have HL3 := Lib.hid (HL2.out.trans (hl.mono HL2.out.size))
      clear hl KC HB2 HL2 HPT
      go_wp2_with fail
      refine (HWR.out w3 (HAT.out w3 HL3.out) (Nat.le_trans HL.out HL3.out.size)).mono ?_
      rintro e w4 ⟨rfl, p4, H4, T4, R4⟩
      clear HWR
      by_cases he : e1 = 0
      · subst he
        have HSE1 := Lib.hid (HSE.out HOK.out H2.out rfl)
        clear HSE HWE
        have H4 := Lib.hid H4
        have T4 := Lib.hid ((Turn3.of_below HL3.out m m none).trans T4 (RowN.refl _ _))
        have R4 : Hid (RowN w p p4) := Lib.hid (fun k hk => by
          rcases R4 k hk with e | e
          · exact .inl e
          · exact .inr (Nat.le_trans HL3.out.size e))
        go_wp2_with fail
        refine (HSY.out w4 q p4 H4.out (Nat.le_trans HL.out T4.out.size)).mono ?_
        rintro e w5 ⟨rfl, q5, p5, H5, T5, Q5, R5⟩
        have H5 := Lib.hid H5
        have Q5 : Hid (RowN w q q5) := Lib.hid (fun k hk => by
          rcases Q5 k hk with e | e
          · exact .inl e
          · exact .inr (Nat.le_trans T4.out.size e))
        have R5 := Lib.hid (R4.out.trans R5 T4.out.size)
        have T5 := Lib.hid (T4.out.trans T5 (RowN.refl _ _))
        go_wp2_with fail
        go_ret
        exact ⟨by rw [HSE1.out]; rfl, q5, p5, by rw [HSE1.out]; exact H5.out, T5.out, Q5.out, R5.out⟩
      · have ne : (e1 != 0) = true := by rw [bne_iff_ne]; exact he
        have HWE1 := Lib.hid (HWE.out HOK.out H2.out he)
        clear HSE HWE he HSY
        have H4 := Lib.hid H4
        have T4 := Lib.hid ((Turn3.of_below HL3.out m m none).trans T4 (RowN.refl _ _))
        have R4 : Hid (RowN w p p4) := Lib.hid (fun k hk => by
          rcases R4 k hk with e | e
          · exact .inl e
          · exact .inr (Nat.le_trans HL3.out.size e))
        go_wp2_with fail
        go_ret
        exact ⟨by rw [HWE1.out]; rfl, q, p4, by rw [HWE1.out]; exact H4.out, T4.out, RowN.refl _ _, R4.out⟩
    · have d2 : decide ((ns : Int) < 2) = true := decide_eq_true (by omega)
      have HNO1 := Lib.hid (HNO.out (fun e => h2 e.2))
      clear h2 HNO HWE HSE
      go_enter Try.func18, Try.ntmps18
      go_wp2_with (first
        | (have RB1 := RB
           refine wpList_load_mid rfl 23 (.tmp 3) rfl w.heap.size 0 rfl [.int .i64 a, .int .i64 b', .int .i64 c] _ RB1 hu rfl info_rtfrom ?_
           simp only [Act.put, List.setIfInBounds_toArray, List.set_cons_zero, List.set_cons_succ]
           clear RB RB1)
        | fail)
      refine (HCH.out _).mono ?_
      rintro e w2 ⟨rfl, hb2⟩
      have HL2 := Lib.hid (HL1.out.trans (hb2.mono HL1.out.size))
      clear hb2 HCH HB1 HL1
      have ks := (HSZ.out w2 HL2.out)
      obtain ⟨A9, c9, ks⟩ := ks
      go_wp2_with fail
      clear ks
      go_ret
      exact ⟨by rw [HNO1.out]; rfl, q, p, by rw [HNO1.out]; exact HAT.out w2 HL2.out, Turn3.of_below HL2.out m m none, RowN.refl _ _, RowN.refl _ _⟩
  · rw [decide_eq_false hok] at HCH
    have HNO1 := Lib.hid (HNO.out (fun e => hok e.1))
    clear hok HNO HWE HSE HWR HPT HSY
    obtain ⟨a, b', c⟩ := x
    show Calls Try.prog 18 #[.pointer (some ⟨m, 0, none⟩), .agg #[.int .i64 a, .int .i64 b', .int .i64 c]] w _
    have RB := (Blk.new w [.int .i64 a, .int .i64 b', .int .i64 c] 23).range 0 [.int .i64 a, .int .i64 b', .int .i64 c] rfl
    have HL1 := Lib.hid ((Below.refl w.heap.size w).alloc (Nat.le_refl _) (.cells #[.int .i64 a, .int .i64 b', .int .i64 c] 23))
    go_enter Try.func18, Try.ntmps18
    go_wp2_with (first
      | (have RB1 := RB
         refine wpList_load_mid rfl 23 (.tmp 3) rfl w.heap.size 0 rfl [.int .i64 a, .int .i64 b', .int .i64 c] _ RB1 hu rfl info_rtfrom ?_
         simp only [Act.put, List.setIfInBounds_toArray, List.set_cons_zero, List.set_cons_succ]
         clear RB RB1)
      | fail)
    refine (HCH.out _).mono ?_
    rintro e w2 ⟨rfl, hb2⟩
    have HL2 := Lib.hid (HL1.out.trans (hb2.mono HL1.out.size))
    clear hb2 HCH HL1
    go_wp2_with fail
    go_ret
    exact ⟨by rw [HNO1.out]; rfl, q, p, by rw [HNO1.out]; exact HAT.out w2 HL2.out, Turn3.of_below HL2.out m m none, RowN.refl _ _, RowN.refl _ _⟩
end Go.Proofs.Ytncbhpopobjaiaa

/- Roots: what stands on a disk of two sectors, however the power goes: mathematics alone. -/
namespace Go.Proofs.Ytncbhpopobjaiaa
set_option linter.unusedVariables false
set_option linter.unusedSimpArgs false
open Go Go.RowKit SumM OctM

/-- What a sector has is no root, or an elder one. -/
def Older (s : Sc) (n : Int) : Prop := s.2 = false → (rget s.1.1).2 = true → (rget s.1.1).1.1 < n
/-- The root x stands on a disk of two sectors. -/
structure Stands (D : Dk) (x : Rt) : Prop where
  len : D.s.length = 2
  none : D.w = []
  fuse : D.fuse = -1
  dead : D.dead = false
  ok : Rok x
  at_ : D.s.getD (x.1 % 2).toNat (z64, false) = (b64 (rput x), false)
  other : Older (D.s.getD (1 - x.1 % 2).toNat (z64, false)) x.1
theorem dread_calm {D : Dk} (hw : D.w = []) (hd : D.dead = false) (hl : D.s.length = 2) (k : Nat) (hk : k < 2) :
    dread D (k : Int) = if (D.s.getD k (z64, false)).2 then ([], 16) else ((D.s.getD k (z64, false)).1.1, 0) := by
  have hh : dhas D (k : Int) = true := by
    unfold dhas
    rw [decide_eq_true_eq]
    omega
  have hlk : dlook D (k : Int) = D.s.getD k (z64, false) := by
    unfold dlook
    rw [hw, Int.toNat_natCast]
    rfl
  unfold dread
  rw [hd, if_neg (by decide), if_pos hh, hlk]
theorem rpick_calm {D : Dk} (hw : D.w = []) (hd : D.dead = false) (hl : D.s.length = 2) (k : Nat) (hk : k < 2) (best : Rt) :
    rpick D best (k : Int) = if (D.s.getD k (z64, false)).2 = false ∧ (rget (D.s.getD k (z64, false)).1.1).2 = true ∧ best.1 < (rget (D.s.getD k (z64, false)).1.1).1.1 then (rget (D.s.getD k (z64, false)).1.1).1 else best := by
  unfold rpick
  rw [dread_calm hw hd hl k hk]
  cases hb : (D.s.getD k (z64, false)).2
  · simp
  · simp
theorem Stands.get {D : Dk} {x : Rt} (h : Stands D x) : rget (b64 (rput x)).1 = (x, true) := by
  rw [b64_val (rput_len x h.ok)]
  exact rget_put x h.ok
theorem Stands.load {D : Dk} {x : Rt} (h : Stands D x) : rload D = (x, 0) := by
  have hx1 := h.ok.1
  have hg := h.get
  have ho := h.other
  have ha := h.at_
  have p0 := rpick_calm h.none h.dead h.len 0 (by decide) rt0
  have p1 := fun b => rpick_calm h.none h.dead h.len 1 (by decide) b
  have hb : rbest D 2 = x := by
    show rpick D (rpick D rt0 ((0 : Nat) : Int)) ((1 : Nat) : Int) = x
    rw [p0, p1]
    rcases Int.emod_two_eq x.1 with e | e
    · rw [e] at ha ho
      have ha : D.s.getD 0 (z64, false) = (b64 (rput x), false) := ha
      have ho : Older (D.s.getD 1 (z64, false)) x.1 := ho
      have hi : (if (D.s.getD 0 (z64, false)).2 = false ∧ (rget (D.s.getD 0 (z64, false)).1.1).2 = true ∧ rt0.1 < (rget (D.s.getD 0 (z64, false)).1.1).1.1 then (rget (D.s.getD 0 (z64, false)).1.1).1 else rt0) = x := by
        rw [ha]
        dsimp only
        rw [hg]
        exact if_pos ⟨rfl, rfl, by show rt0.1 < x.1; have : rt0.1 = 0 := rfl; omega⟩
      rw [hi, if_neg]
      rintro ⟨h1, h2, h3⟩
      have h4 := ho h1 h2
      omega
    · rw [e] at ha ho
      have ha : D.s.getD 1 (z64, false) = (b64 (rput x), false) := ha
      have ho : Older (D.s.getD 0 (z64, false)) x.1 := ho
      generalize D.s.getD 0 (z64, false) = s0 at ho
      rw [ha]
      dsimp only
      rw [hg]
      dsimp only
      rw [if_pos]
      refine ⟨rfl, rfl, ?_⟩
      split
      · rename_i hc
        exact ho hc.1 hc.2.1
      · show rt0.1 < x.1
        have : rt0.1 = 0 := rfl
        omega
  unfold rload
  rw [h.dead, if_neg (by decide), hb, if_neg (by omega)]
/-- A store, while the power stays. -/
theorem rstore_calm {D : Dk} (hw : D.w = []) (hd : D.dead = false) (hl : D.s.length = 2) (hf : D.fuse < 0) {y : Rt} (hy : Rok y) :
    rstore D y = ({ D with s := D.s.set (y.1 % 2).toNat (b64 (rput y), false) }, 0) := by
  obtain ⟨s, w, f, d⟩ := D
  dsimp only at hf hd hw hl ⊢
  subst hd hw
  have hr := Int.emod_two_eq y.1
  have hh : dhas ⟨s, [], f, false⟩ (y.1 % 2) = true := by unfold dhas; rw [decide_eq_true_eq]; dsimp only; omega
  have hst : ∀ (s : List Sc) (w : List Wr), dstep ⟨s, w, f, false⟩ = (⟨s, w, f, false⟩, 0) := fun s w => by unfold dstep; dsimp only; rw [if_neg (by omega), if_neg (by omega)]
  have hwr : dwrite ⟨s, [], f, false⟩ (y.1 % 2) (rput y) = (⟨s, [(y.1 % 2, b64 (rput y))], f, false⟩, 0) := by
    unfold dwrite
    rw [if_neg (by simp), if_pos ⟨hh, rput_len y hy⟩]
    exact hst _ _
  unfold rstore
  rw [if_pos ⟨hy, by dsimp only; omega⟩, hwr, if_pos rfl]
  unfold dsync
  dsimp only
  rw [if_neg (by decide), hst, if_pos rfl]
  rfl
/-- A store, where the power goes ahead of its end. -/
theorem rstore_gone {D : Dk} (hw : D.w = []) (hd : D.dead = false) (hl : D.s.length = 2) (hf : D.fuse = 0 ∨ D.fuse = 1) {y : Rt} (hy : Rok y) :
    rstore D y = ({ D with w := [(y.1 % 2, b64 (rput y))], fuse := 0, dead := true }, 15) := by
  have hr := Int.emod_two_eq y.1
  have hh : dhas D (y.1 % 2) = true := by unfold dhas; rw [decide_eq_true_eq]; omega
  unfold rstore
  rw [if_pos ⟨hy, by omega⟩]
  have hwr : dwrite D (y.1 % 2) (rput y) = dstep { D with w := [(y.1 % 2, b64 (rput y))] } := by
    unfold dwrite
    rw [hd, if_neg (by decide), if_pos ⟨hh, rput_len y hy⟩, hw, List.nil_append]
  rw [hwr]
  obtain ⟨s, w, f, d⟩ := D
  dsimp only at hf hd hw ⊢
  subst hd hw
  rcases hf with rfl | rfl
  · rfl
  · rfl
/-- A store, where the power goes later. -/
theorem rstore_late {D : Dk} (hw : D.w = []) (hd : D.dead = false) (hl : D.s.length = 2) (hf : 2 ≤ D.fuse) {y : Rt} (hy : Rok y) :
    rstore D y = ({ D with s := D.s.set (y.1 % 2).toNat (b64 (rput y), false), fuse := D.fuse - 2 }, 0) := by
  obtain ⟨s, w, f, d⟩ := D
  dsimp only at hf hd hw hl ⊢
  subst hd hw
  have hr := Int.emod_two_eq y.1
  have hh : dhas ⟨s, [], f, false⟩ (y.1 % 2) = true := by unfold dhas; rw [decide_eq_true_eq]; dsimp only; omega
  have hst : ∀ (s : List Sc) (w : List Wr) (f : Int), 0 < f → dstep ⟨s, w, f, false⟩ = (⟨s, w, f - 1, false⟩, 0) := fun s w f h => by unfold dstep; dsimp only; rw [if_neg (by omega), if_pos h]
  have hwr : dwrite ⟨s, [], f, false⟩ (y.1 % 2) (rput y) = (⟨s, [(y.1 % 2, b64 (rput y))], f - 1, false⟩, 0) := by
    unfold dwrite
    rw [if_neg (by simp), if_pos ⟨hh, rput_len y hy⟩]
    exact hst _ _ _ (by show 0 < f; omega)
  unfold rstore
  rw [if_pos ⟨hy, by dsimp only; omega⟩, hwr, if_pos rfl]
  unfold dsync
  dsimp only
  rw [if_neg (by decide), hst _ _ _ (by omega), if_pos rfl]
  dsimp only
  rw [show f - 1 - 1 = f - 2 by omega]
  rfl
theorem outc_three (keep : List Int) (k : Nat) : outc keep k = 0 ∨ outc keep k = 1 ∨ outc keep k = 2 := by
  unfold outc
  split
  · split <;> omega
  · exact .inl rfl
theorem getD_set_same {l : List Sc} {k : Nat} (x d : Sc) (h : k < l.length) : (l.set k x).getD k d = x := by
  rw [List.getD_eq_getElem?_getD, List.getElem?_set_self h]
  rfl
theorem getD_set_other {l : List Sc} {k j : Nat} (x d : Sc) (h : k ≠ j) : (l.set k x).getD j d = l.getD j d := by
  rw [List.getD_eq_getElem?_getD, List.getElem?_set_ne h, ← List.getD_eq_getElem?_getD]
/-- What is stored over the elder one stands. -/
theorem Stands.next {D : Dk} {x y : Rt} (h : Stands D x) (hy : Rok y) (hn : y.1 = x.1 + 1) : Stands ⟨D.s.set (y.1 % 2).toNat (b64 (rput y), false), [], -1, false⟩ y := by
  have hr := Int.emod_two_eq x.1
  have hl := h.len
  refine ⟨by rw [List.length_set]; exact h.len, rfl, rfl, rfl, hy, getD_set_same _ _ (by rw [h.len]; omega), ?_⟩
  show Older ((D.s.set (y.1 % 2).toNat (b64 (rput y), false)).getD (1 - y.1 % 2).toNat (z64, false)) y.1
  rw [getD_set_other _ _ (by omega), show (1 - y.1 % 2).toNat = (x.1 % 2).toNat by omega, h.at_]
  intro _ _
  dsimp only
  rw [h.get]
  dsimp only
  omega
/-- What the elder one's sector comes to changes nothing. -/
theorem Stands.same {D : Dk} {x : Rt} (h : Stands D x) (s : Sc) (hs : s.2 = true) : Stands ⟨D.s.set (1 - x.1 % 2).toNat s, [], -1, false⟩ x := by
  have hr := Int.emod_two_eq x.1
  have hl := h.len
  refine ⟨by rw [List.length_set]; exact h.len, rfl, rfl, rfl, h.ok, ?_, ?_⟩
  · show (D.s.set (1 - x.1 % 2).toNat s).getD (x.1 % 2).toNat (z64, false) = _
    rw [getD_set_other _ _ (by omega)]
    exact h.at_
  · show Older ((D.s.set (1 - x.1 % 2).toNat s).getD (1 - x.1 % 2).toNat (z64, false)) x.1
    rw [getD_set_same _ _ (by rw [h.len]; omega)]
    intro e
    rw [hs] at e
    cases e
/-- However the power goes in a store. -/
theorem Stands.falls {D : Dk} {x y : Rt} (h : Stands D x) (hy : Rok y) (hn : y.1 = x.1 + 1) (f : Int) (hf : 0 ≤ f) (keep : List Int) :
    ((rstore { D with fuse := f } y).2 = 0 ∨ (rstore { D with fuse := f } y).2 = 15) ∧ ∃ z, (z = x ∨ z = y) ∧ ((rstore { D with fuse := f } y).2 = 0 → z = y) ∧ Stands (dcrash (rstore { D with fuse := f } y).1 keep) z := by
  have hr := Int.emod_two_eq x.1
  have hl := h.len
  by_cases h2 : 2 ≤ f
  · rw [rstore_late (D := { D with fuse := f }) h.none h.dead h.len h2 hy]
    refine ⟨.inl rfl, y, .inr rfl, fun _ => rfl, ?_⟩
    have := h.next hy hn
    unfold dcrash
    dsimp only
    rw [h.none]
    exact this
  · rw [rstore_gone (D := { D with fuse := f }) h.none h.dead h.len (by show f = 0 ∨ f = 1; omega) hy]
    refine ⟨.inr rfl, ?_⟩
    have hc : ∀ o, outc keep 0 = o → dcrash { D with w := [(y.1 % 2, b64 (rput y))], fuse := 0, dead := true } keep = ⟨dsettle D.s (y.1 % 2, b64 (rput y)) o, [], -1, false⟩ := fun o ho => by
      unfold dcrash
      dsimp only
      unfold dkeep dkeep
      rw [ho]
    rcases outc_three keep 0 with ho | ho | ho
    · refine ⟨x, .inl rfl, (fun e => absurd (show (15 : Int) = 0 from e) (by decide)), ?_⟩
      have := hc 0 ho
      dsimp only at this ⊢
      rw [this]
      have e : dsettle D.s (y.1 % 2, b64 (rput y)) 0 = D.s := rfl
      rw [e]
      exact ⟨h.len, rfl, rfl, rfl, h.ok, h.at_, h.other⟩
    · refine ⟨y, .inr rfl, fun _ => rfl, ?_⟩
      have := hc 1 ho
      dsimp only at this ⊢
      rw [this]
      have e : dsettle D.s (y.1 % 2, b64 (rput y)) 1 = D.s.set (y.1 % 2).toNat (b64 (rput y), false) := rfl
      rw [e]
      exact h.next hy hn
    · refine ⟨x, .inl rfl, (fun e => absurd (show (15 : Int) = 0 from e) (by decide)), ?_⟩
      have := hc 2 ho
      dsimp only at this ⊢
      rw [this]
      have e : dsettle D.s (y.1 % 2, b64 (rput y)) 2 = D.s.set (y.1 % 2).toNat ((D.s.getD (y.1 % 2).toNat (z64, false)).1, true) := rfl
      rw [e, show (y.1 % 2).toNat = (1 - x.1 % 2).toNat by omega]
      exact h.same _ rfl
/-- A first root. -/
theorem Stands.first {y : Rt} (hy : Rok y) : rstore (dnew 2) y = (⟨(dnew 2).s.set (y.1 % 2).toNat (b64 (rput y), false), [], -1, false⟩, 0) ∧ Stands ⟨(dnew 2).s.set (y.1 % 2).toNat (b64 (rput y), false), [], -1, false⟩ y := by
  have hr := Int.emod_two_eq y.1
  have hl : (dnew 2).s.length = 2 := rfl
  refine ⟨rstore_calm rfl rfl rfl (by decide) hy, by rw [List.length_set]; rfl, rfl, rfl, rfl, hy, getD_set_same _ _ (by rw [hl]; omega), ?_⟩
  show Older (((dnew 2).s.set (y.1 % 2).toNat (b64 (rput y), false)).getD (1 - y.1 % 2).toNat (z64, false)) y.1
  rw [getD_set_other _ _ (by omega)]
  intro _ h2
  exfalso
  have hz : (dnew 2).s.getD (1 - y.1 % 2).toNat (z64, false) = (z64, false) := by
    rcases hr with e | e
    · rw [e]; rfl
    · rw [e]; rfl
  rw [hz] at h2
  have : rget z64.1 = (rt0, false) := rget_name _ (by decide)
  dsimp only at h2
  rw [this] at h2
  cases h2
end Go.Proofs.Ytncbhpopobjaiaa

/- Roots: the chapter's example. -/
namespace Go.Proofs.Ytncbhpopobjaiaa
set_option linter.unusedVariables false
set_option linter.unusedSimpArgs false
open Go Go.RowKit SumM OctM

def Fits (D : Dk) : Prop := DIn D ∧ (-9223372036854775808 ≤ D.fuse ∧ D.fuse ≤ 9223372036854775807) ∧ D.w.length ≤ 1000 ∧ D.s.length ≤ 2048
theorem Stands.fits {D : Dk} {x : Rt} (h : Stands D x) : Fits D := ⟨DIn.none h.none, by rw [h.fuse]; omega, by rw [h.none]; simp, by rw [h.len]; omega⟩
theorem aw_chain : ∃ D1 D2 D3 D4, rstore (dnew 2) (1, 1, 0) = (D1, 0) ∧ rstore D1 (2, 1, 7) = (D2, 0) ∧ rload D2 = ((2, 1, 7), 0) ∧ dwrite D2 0 (fil 64 0) = (D3, 0) ∧ dcrash D3 [2] = D4 ∧ rload D4 = ((1, 1, 0), 0) ∧ Fits D1 ∧ Fits D2 ∧ Fits D3 ∧ Fits D4 := by
  have ok1 : Rok (1, 1, 0) := by decide
  have ok2 : Rok (2, 1, 7) := by decide
  obtain ⟨h1, s1⟩ := Stands.first ok1
  have h2 := rstore_calm s1.none s1.dead s1.len (by rw [s1.fuse]; decide) ok2
  have s2 := s1.next ok2 (by rfl)
  have hd : dhas ⟨((dnew 2).s.set (((1, 1, 0) : Rt).1 % 2).toNat (b64 (rput (1, 1, 0)), false)).set (((2, 1, 7) : Rt).1 % 2).toNat (b64 (rput (2, 1, 7)), false), [], -1, false⟩ 0 = true := by
    unfold dhas
    rw [decide_eq_true_eq]
    dsimp only
    rw [List.length_set, List.length_set]
    exact ⟨by decide, by decide⟩
  have h3 : dwrite ⟨((dnew 2).s.set (((1, 1, 0) : Rt).1 % 2).toNat (b64 (rput (1, 1, 0)), false)).set (((2, 1, 7) : Rt).1 % 2).toNat (b64 (rput (2, 1, 7)), false), [], -1, false⟩ 0 (fil 64 0) = (⟨((dnew 2).s.set (((1, 1, 0) : Rt).1 % 2).toNat (b64 (rput (1, 1, 0)), false)).set (((2, 1, 7) : Rt).1 % 2).toNat (b64 (rput (2, 1, 7)), false), [(0, b64 (fil 64 0))], -1, false⟩, 0) := by
    unfold dwrite
    rw [if_neg (by simp), if_pos ⟨hd, fil_len 64 0⟩]
    rfl
  have s4 := s1.same ((b64 (rput (2, 1, 7))), true) rfl
  refine ⟨_, _, _, _, h1, h2, s2.load, h3, rfl, ?_, s1.fits, s2.fits, ⟨?_, by decide, by simp, s2.fits.2.2.2⟩, ⟨DIn.crash _ _, by simp [dcrash], by simp [dcrash], ?_⟩⟩
  · refine Eq.trans ?_ s4.load
    congr 1
  · have := (DIn.write (D := ⟨((dnew 2).s.set (((1, 1, 0) : Rt).1 % 2).toNat (b64 (rput (1, 1, 0)), false)).set (((2, 1, 7) : Rt).1 % 2).toNat (b64 (rput (2, 1, 7)), false), [], -1, false⟩) (DIn.none rfl) 0 (fil 64 0))
    rw [h3] at this
    exact this
  · show (dkeep _ _ _ _).length ≤ 2048
    rw [dkeep_len]
    exact s2.fits.2.2.2
theorem Turn3.apart {w w' : World} {g b k : Nat} {r : Option Nat} {cs : List Value} {n : Nat} (h : Turn3 w w' g b r) (hb : Blk w k cs) (hg : g < n) (hb' : b < n) (hr : ∀ j, r = some j → j < n) (hk : n ≤ k) : Blk w' k cs :=
  h.blk hb (by omega) (by omega) (fun e => by have := hr k e; omega)
set_option maxRecDepth 100000 in
set_option maxHeartbeats 6400000 in
theorem rt_awake (w : World) : Calls Try.prog 6 #[] w fun e w' => e = .returned (.bool true) ∧ Below w.heap.size w w' := by
  obtain ⟨D1, D2, D3, D4, h1, h2, h3, h4, h5, h6, f1, f2, f3, f4⟩ := aw_chain
  have HN := Lib.hid (new_any 2 w (by omega) (by omega))
  have HS1 : Hid (∀ wx r, DkAt wx w.heap.size (w.heap.size + 1) w.heap.size r (dnew 2) → w.heap.size ≤ wx.heap.size → Calls Try.prog 17 #[.pointer (some ⟨w.heap.size + 1, 0, none⟩), .agg #[.int .i64 1, .int .i64 1, .int .i64 0]] wx fun e w' => e = .returned (.int .i64 0) ∧ ∃ r', DkAt w' w.heap.size (w.heap.size + 1) w.heap.size r' D1 ∧ Turn3 wx w' (w.heap.size + 1) w.heap.size r ∧ RowN wx r r') := Lib.hid (fun wx r hd hz => by
    have := store_any w.heap.size (w.heap.size + 1) w.heap.size r (dnew 2) (1, 1, 0) wx hd (DIn.none rfl) (by decide) (by decide) (by decide) hz
    rw [h1] at this
    exact this)
  have HS2 : Hid (∀ wx r, DkAt wx w.heap.size (w.heap.size + 1) w.heap.size r D1 → w.heap.size ≤ wx.heap.size → Calls Try.prog 17 #[.pointer (some ⟨w.heap.size + 1, 0, none⟩), .agg #[.int .i64 2, .int .i64 1, .int .i64 7]] wx fun e w' => e = .returned (.int .i64 0) ∧ ∃ r', DkAt w' w.heap.size (w.heap.size + 1) w.heap.size r' D2 ∧ Turn3 wx w' (w.heap.size + 1) w.heap.size r ∧ RowN wx r r') := Lib.hid (fun wx r hd hz => by
    have := store_any w.heap.size (w.heap.size + 1) w.heap.size r D1 (2, 1, 7) wx hd f1.1 f1.2.1 (by have := f1.2.2.1; omega) f1.2.2.2 hz
    rw [h2] at this
    exact this)
  have HL2 : Hid (∀ wx r, DkAt wx w.heap.size (w.heap.size + 1) w.heap.size r D2 → Calls Try.prog 24 #[.pointer (some ⟨w.heap.size + 1, 0, none⟩)] wx fun e w' => e = .returned (.tuple #[.agg #[.int .i64 2, .int .i64 1, .int .i64 7], .int .i64 0]) ∧ Below wx.heap.size wx w') := Lib.hid (fun wx r hd => by
    have := load_any w.heap.size (w.heap.size + 1) w.heap.size r D2 wx hd (by have := f2.2.2.1; omega)
    rw [h3] at this
    exact this)
  obtain ⟨s0, hs0⟩ : ∃ s0, s0 = str (fil 64 0) := ⟨_, rfl⟩
  have HW3 : Hid (∀ wx r, DkAt wx w.heap.size (w.heap.size + 1) w.heap.size r D2 → w.heap.size ≤ wx.heap.size → Calls Try.prog 22 #[.pointer (some ⟨w.heap.size + 1, 0, none⟩), .int .i64 0, .string s0] wx fun e w' => e = .returned (.int .i64 0) ∧ ∃ r', DkAt w' w.heap.size (w.heap.size + 1) w.heap.size r' D3 ∧ Turn3 wx w' (w.heap.size + 1) w.heap.size r ∧ RowN wx r r') := Lib.hid (fun wx r hd hz => by
    have := write_any w.heap.size (w.heap.size + 1) w.heap.size r D2 0 (fil 64 0) wx hd f2.2.1 (by rw [fil_len]; unfold maxLen; omega) (by have := f2.2.2.1; omega) hz
    rw [h4, ← hs0] at this
    exact this)
  have HC4 : Hid (∀ wx r X, DkAt wx w.heap.size (w.heap.size + 1) w.heap.size r D3 → w.heap.size ≤ wx.heap.size → w.heap.size < X → Blk wx X [.int .i64 2] → Calls Try.prog 20 #[.pointer (some ⟨w.heap.size + 1, 0, none⟩), .slice (some ⟨X, 0, none⟩) 1 1] wx fun e w' => e = .returned (.tuple #[]) ∧ DkAt w' w.heap.size (w.heap.size + 1) w.heap.size none D4 ∧ Turn3 wx w' (w.heap.size + 1) w.heap.size r) := Lib.hid (fun wx r X hd hz hX hB => by
    have := crash_any w.heap.size (w.heap.size + 1) w.heap.size r D3 (some ⟨X, 0, none⟩) 1 1 [2] wx hd f3.1 (by have := f3.2.2.1; omega) hz rfl (by unfold maxLen; omega) (fun W hT _ => by
      have hB2 := hT.blk hB (by omega) (by omega) (by simp)
      exact ⟨X, 0, rfl, hB2.lt, fun j hj => by rw [Nat.zero_add]; exact hB2.cell (List.getElem?_eq_getElem hj)⟩)
    rw [h5] at this
    exact this)
  have HL6 : Hid (∀ wx r, DkAt wx w.heap.size (w.heap.size + 1) w.heap.size r D4 → Calls Try.prog 24 #[.pointer (some ⟨w.heap.size + 1, 0, none⟩)] wx fun e w' => e = .returned (.tuple #[.agg #[.int .i64 1, .int .i64 1, .int .i64 0], .int .i64 0]) ∧ Below wx.heap.size wx w') := Lib.hid (fun wx r hd => by
    have := load_any w.heap.size (w.heap.size + 1) w.heap.size r D4 wx hd (by have := f4.2.2.1; omega)
    rw [h6] at this
    exact this)
  have HMK : Hid (∀ wx : World, (Instr.makeSlice 62 (.int .i64 64) (.int .i64 64)).run Try.prog wx = .ok (.slice (some ⟨wx.heap.size, 0, none⟩) 64 64) (wx.alloc (.cells (bvs (fil 64 0)).toArray 5))) := Lib.hid (fun wx => mk_byt 64 (by omega) wx)
  have HCV : Hid (∀ wx X, Blk wx X (bvs (fil 64 0)) → (convert 62 9 (.slice (some ⟨X, 0, none⟩) 64 64)).run Try.prog wx = .ok (.string s0) wx) := Lib.hid (fun wx X hB => str_cnv wx wx.heap.size (some ⟨X, 0, none⟩) 64 64 (fil 64 0) s0 (fil_len 64 0) (fun _ => ⟨X, 0, rfl, hB.lt, fun j hj => by rw [Nat.zero_add]; exact hB.cell (List.getElem?_eq_getElem hj)⟩) hs0)
  clear h1 h2 h3 h4 h5 h6 f1 f2 f3 f4 hs0
  obtain ⟨bz, hbz⟩ : ∃ bz, bz = bvs (fil 64 0) := ⟨_, rfl⟩
  rw [← hbz] at HMK HCV
  clear hbz
  go_enter Try.func6, Try.ntmps6
  go_wp2_with fail
  refine HN.out.mono ?_
  rintro e w1 ⟨rfl, d1, b1⟩
  have HD1 := Lib.hid d1
  have HB1 := Lib.hid b1
  have z1 := b1.size
  clear d1 b1 HN
  go_wp2_with fail
  refine (HS1.out w1 none HD1.out HB1.out.size).mono ?_
  rintro e w2 ⟨rfl, r2, d2, T2, R2⟩
  have HB2 := Lib.hid (HB1.out.trans (T2.below (by omega) (Nat.le_refl _) (fun k e => by cases e) z1))
  have HD2 := Lib.hid d2
  clear d2 T2 R2 HD1 HB1 HS1
  go_wp2_with fail
  refine (HS2.out w2 r2 HD2.out HB2.out.size).mono ?_
  rintro e w3 ⟨rfl, r3, d3, T3, R3⟩
  have HB3 := Lib.hid (HB2.out.trans (T3.below (by omega) (Nat.le_refl _) (fun k e => (HD2.out.row k e).1) HB2.out.size))
  have HD3 := Lib.hid d3
  clear d3 T3 R3 HD2 HB2 HS2
  go_wp2_with fail
  refine (HL2.out w3 r3 HD3.out).mono ?_
  rintro e w4 ⟨rfl, b4⟩
  have HD4 := HD3.out.later b4
  have HB4 := HB3.out.trans (b4.mono HB3.out.size)
  have BX := Blk.new w4 [.int .i64 0, .int .i64 0, .int .i64 0] 25
  have THX := BX.there 0 3 (by simp)
  have BX5 : Blk ((w4.alloc (.cells #[.int .i64 0, .int .i64 0, .int .i64 0] 25)).setCells w4.heap.size 0 [.int .i64 2, .int .i64 1, .int .i64 7]) w4.heap.size [.int .i64 2, .int .i64 1, .int .i64 7] := BX.sets [.int .i64 2, .int .i64 1, .int .i64 7] 0 (by simp)
  have L45 : Below w4.heap.size w4 ((w4.alloc (.cells #[.int .i64 0, .int .i64 0, .int .i64 0] 25)).setCells w4.heap.size 0 [.int .i64 2, .int .i64 1, .int .i64 7]) := below_sets (Nat.le_refl _) _ 0 ((Below.refl w4.heap.size w4).alloc (Nat.le_refl _) _)
  have hg4 := HD4.lt
  have hr4 := HD4.row
  obtain ⟨W5, hW5⟩ : ∃ W5, W5 = (w4.alloc (.cells #[.int .i64 0, .int .i64 0, .int .i64 0] 25)).setCells w4.heap.size 0 [.int .i64 2, .int .i64 1, .int .i64 7] := ⟨_, rfl⟩
  rw [← hW5] at BX5 L45
  have HW5 := Lib.hid hW5
  have HD5 := Lib.hid (HD4.later L45)
  have HB5 := Lib.hid (HB4.trans (L45.mono HB4.size))
  have HX5 := Lib.hid BX5
  have z4 : w.heap.size + 1 < w4.heap.size ∧ w.heap.size < w4.heap.size := hg4
  have HR4 : Hid (∀ k, r3 = some k → k < w4.heap.size) := Lib.hid (fun k e => (hr4 k e).2)
  clear b4 HB4 BX BX5 L45 hW5 HD4 HD3 HB3 HL2 hg4 hr4
  have BZ6 := Blk.new W5 bz 5
  have L56 := (Below.refl W5.heap.size W5).alloc (Nat.le_refl _) (.cells bz.toArray 5)
  have HMK5 := Lib.hid (HMK.out W5)
  obtain ⟨W6, hW6⟩ : ∃ W6, W6 = W5.alloc (.cells bz.toArray 5) := ⟨_, rfl⟩
  rw [← hW6] at BZ6 L56 HMK5
  have HCV6 := Lib.hid (HCV.out W6 W5.heap.size BZ6)
  have HD6 := Lib.hid (HD5.out.later L56)
  have HB6 := Lib.hid (HB5.out.trans (L56.mono HB5.out.size))
  have HX6 := Lib.hid (HX5.out.later L56)
  clear hW6 BZ6 L56 HD5 HB5 HX5
  go_wp2_with (first
    | (have TX1 := THX
       refine wpList_store_mid rfl 25 (.tmp 4) (.tmp 18) rfl w4.heap.size 0 #[.int .i64 2, .int .i64 1, .int .i64 7] rfl rfl TX1 info_rtto (by simp [Value.oneCell']) ?_
       simp only [Act.put, List.setIfInBounds_toArray, List.set_cons_zero, List.set_cons_succ]
       rw [← HW5.out]
       clear THX TX1 HW5)
    | (have M1 := HMK5
       refine wpList_execw (by rfl) (.slice (some ⟨W5.heap.size, 0, none⟩) 64 64) (exec_mks 62 (.const (.int .i64 64)) (.const (.int .i64 64)) rfl (.int .i64 64) (.int .i64 64) _ rfl rfl M1.out) ?_
       simp only [Act.put, List.setIfInBounds_toArray, List.set_cons_zero, List.set_cons_succ]
       clear HMK5 M1)
    | (have C1 := HCV6
       refine wpList_execw (by rfl) (.string s0) (exec_cnv (.tmp 21) 62 9 rfl (.slice (some ⟨W5.heap.size, 0, none⟩) 64 64) rfl (.string s0) C1.out) ?_
       simp only [Act.put, List.setIfInBounds_toArray, List.set_cons_zero, List.set_cons_succ]
       clear HCV6 C1)
    | fail)
  refine (HW3.out W6 r3 HD6.out HB6.out.size).mono ?_
  rintro e w7 ⟨rfl, r7, d7, T7, R7⟩
  have HD7 := Lib.hid d7
  have HX7 := Lib.hid (T7.apart HX6.out z4.1 z4.2 HR4.out (Nat.le_refl _))
  have HB7 := Lib.hid (HB6.out.trans (T7.below (by omega) (Nat.le_refl _) (fun k e => (HD6.out.row k e).1) HB6.out.size))
  have HR7 : Hid (r7 ≠ some w4.heap.size) := Lib.hid (fun e => by
    rcases R7 _ e with h | h
    · have := HR4.out _ h; omega
    · have := HX6.out.lt; omega)
  clear d7 T7 R7 HD6 HX6 HB6 HW3 HMK HCV
  have BZ8 := Blk.new w7 [.int .i64 2] 3
  have L78 := (Below.refl w7.heap.size w7).alloc (Nat.le_refl _) (.cells #[.int .i64 2] 3)
  obtain ⟨W8, hW8⟩ : ∃ W8, W8 = w7.alloc (.cells #[.int .i64 2] 3) := ⟨_, rfl⟩
  have BZ8 : Blk W8 w7.heap.size [.int .i64 2] := by rw [hW8]; exact BZ8
  rw [← hW8] at L78
  have HW8 := Lib.hid hW8
  have HD8 := Lib.hid (HD7.out.later L78)
  have HB8 := Lib.hid (HB7.out.trans (L78.mono HB7.out.size))
  have HX8 := Lib.hid (HX7.out.later L78)
  have HZ8 := Lib.hid BZ8
  have hz7 : w.heap.size < w7.heap.size := by have := HD7.out.lt.2; omega
  clear hW8 BZ8 L78 HD7 HB7 HX7
  go_wp2_with fail
  rw [← HW8.out]
  clear HW8
  refine (HC4.out W8 r7 w7.heap.size HD8.out HB8.out.size hz7 HZ8.out).mono ?_
  rintro e w9 ⟨rfl, d9, T9⟩
  have HD9 := Lib.hid d9
  have HX9 := Lib.hid (T9.blk HX8.out (by omega) (by omega) HR7.out)
  have HB9 := Lib.hid (HB8.out.trans (T9.below (by omega) (Nat.le_refl _) (fun k e => (HD8.out.row k e).1) HB8.out.size))
  clear d9 T9 HD8 HX8 HB8 HC4 HZ8
  go_wp2_with fail
  refine (HL6.out w9 none HD9.out).mono ?_
  rintro e wA ⟨rfl, bA⟩
  have HXA := HX9.out.later bA
  have HBA := HB9.out.trans (bA.mono HB9.out.size)
  have BY := Blk.new wA [.int .i64 0, .int .i64 0, .int .i64 0] 25
  have THY := BY.there 0 3 (by simp)
  have BYB : Blk ((wA.alloc (.cells #[.int .i64 0, .int .i64 0, .int .i64 0] 25)).setCells wA.heap.size 0 [.int .i64 1, .int .i64 1, .int .i64 0]) wA.heap.size [.int .i64 1, .int .i64 1, .int .i64 0] := BY.sets [.int .i64 1, .int .i64 1, .int .i64 0] 0 (by simp)
  have LAB : Below wA.heap.size wA ((wA.alloc (.cells #[.int .i64 0, .int .i64 0, .int .i64 0] 25)).setCells wA.heap.size 0 [.int .i64 1, .int .i64 1, .int .i64 0]) := below_sets (Nat.le_refl _) _ 0 ((Below.refl wA.heap.size wA).alloc (Nat.le_refl _) _)
  obtain ⟨WB, hWB⟩ : ∃ WB, WB = (wA.alloc (.cells #[.int .i64 0, .int .i64 0, .int .i64 0] 25)).setCells wA.heap.size 0 [.int .i64 1, .int .i64 1, .int .i64 0] := ⟨_, rfl⟩
  rw [← hWB] at BYB LAB
  have HWB := Lib.hid hWB
  have k4 := (HXA.later LAB).cell (j := 2) rfl
  have k6 := BYB.cell (j := 0) rfl
  have HLB := Lib.hid (HBA.trans (LAB.mono HBA.size))
  clear hWB BYB LAB BY HXA HBA bA HD9 HX9 HB9 HL6
  go_wp2_with (first
    | (have TX1 := THY
       refine wpList_store_mid rfl 25 (.tmp 6) (.tmp 30) rfl wA.heap.size 0 #[.int .i64 1, .int .i64 1, .int .i64 0] rfl rfl TX1 info_rtto (by simp [Value.oneCell']) ?_
       simp only [Act.put, List.setIfInBounds_toArray, List.set_cons_zero, List.set_cons_succ]
       rw [← HWB.out]
       clear THY TX1 HWB)
    | fail)
  go_ret
  exact ⟨rfl, HLB.out⟩
end Go.Proofs.Ytncbhpopobjaiaa

/- Roots: RootSectors' walk; when two roots are the same. -/
namespace Go.Proofs.Ytncbhpopobjaiaa
set_option linter.unusedVariables false
set_option linter.unusedSimpArgs false
open Go Go.RowKit SumM OctM

theorem flds_rtq : Try.prog.underlying 25 = some (.struct (Try.prog.fieldsOf 25)) := by kernel_rfl
theorem eq_rtq (d : Nat) (u v : Rt) (w : World) : (Op.equalIn (d + 2) 25 (.agg (rtc u).toArray) (.agg (rtc v).toArray)).run Try.prog w = .ok (decide (u = v)) w := by
  obtain ⟨a, b, c⟩ := u
  obtain ⟨a', b', c'⟩ := v
  rw [run_equalIn_agg w (d + 1) 25 _ _ flds_rtq (by kernel_rfl)]
  have e : (Try.prog.fieldsOf 25).toList = [⟨"Seq", 3, 0, false, "", "", 0⟩, ⟨"Life", 3, 1, false, "", "", 8⟩, ⟨"Head", 3, 2, false, "", "", 16⟩] := by kernel_rfl
  rw [e]
  simp only [rtc, Op.eqFields]
  simp [go_sem, part, isAgg]
  by_cases h1 : a = a' <;> by_cases h2 : b = b' <;> simp [h1, h2, ite_ok]
theorem flds_rrtq : Try.prog.underlying 23 = some (.struct (Try.prog.fieldsOf 23)) := by kernel_rfl
theorem eq_rrtq (d : Nat) (u v : Rt) (w : World) : (Op.equalIn (d + 2) 23 (.agg (rtc u).toArray) (.agg (rtc v).toArray)).run Try.prog w = .ok (decide (u = v)) w := by
  obtain ⟨a, b, c⟩ := u
  obtain ⟨a', b', c'⟩ := v
  rw [run_equalIn_agg w (d + 1) 23 _ _ flds_rrtq (by kernel_rfl)]
  have e : (Try.prog.fieldsOf 23).toList = [⟨"Seq", 3, 0, false, "", "", 0⟩, ⟨"Life", 3, 1, false, "", "", 8⟩, ⟨"Head", 3, 2, false, "", "", 16⟩] := by kernel_rfl
  rw [e]
  simp only [rtc, Op.eqFields]
  simp [go_sem, part, isAgg]
  by_cases h1 : a = a' <;> by_cases h2 : b = b' <;> simp [h1, h2, ite_ok]

set_option maxRecDepth 100000 in
set_option maxHeartbeats 6400000 in
theorem walk_sectors (x : Rt) (l : List UInt8) (w : World) (hm : l.length ≤ 9223372036854775807) : Calls Try.prog 3 #[.agg (rtc x).toArray, .string (str l)] w fun e w' => e = .returned (.bool true) ∧ Below w.heap.size w w' := by
  have hu := Try.underlying25
  have hur := Try.underlying23
  obtain ⟨n, hn⟩ : ∃ n, n = l.length := ⟨_, rfl⟩
  have hz : (str l).size = n := by rw [str_size, hn]
  have B1 := Blk.new w (rtc x) 23
  have L1 := (Below.refl w.heap.size w).alloc (Nat.le_refl _) (.cells (rtc x).toArray 23)
  by_cases h2 : 200 < n
  · have d2 : decide ((200 : Int) < (n : Int)) = true := decide_eq_true (by omega)
    obtain ⟨a, b, c⟩ := x
    obtain ⟨s, hs⟩ : ∃ s, s = str l := ⟨_, rfl⟩
    rw [← hs] at hz ⊢
    show Calls Try.prog 3 #[.agg #[.int .i64 a, .int .i64 b, .int .i64 c], .string s] w _
    have HL1 : Hid (Below w.heap.size w (w.alloc (.cells #[.int .i64 a, .int .i64 b, .int .i64 c] 23))) := Lib.hid L1
    clear hn hs h2 B1 L1 hm
    go_enter Try.func3, Try.ntmps3
    go_wp2_with fail
    refine (rt_awake _).mono ?_
    rintro e w2 ⟨rfl, hb2⟩
    have HL2 := Lib.hid (HL1.out.trans (hb2.mono HL1.out.size))
    clear hb2
    go_wp2_with fail
    go_ret
    exact ⟨rfl, HL2.out⟩
  · have d2 : decide ((200 : Int) < (n : Int)) = false := decide_eq_false (by omega)
    have HG : Hid (∀ wx, Calls Try.prog 7 #[.string (str l)] wx fun e w' => e = .returned (.tuple #[.agg (rtc (rget l).1).toArray, .bool (rget l).2]) ∧ Below wx.heap.size wx w') := Lib.hid (fun wx => rtget_any l wx (by omega))
    have HRG : Hid (∀ wx, Calls Try.prog 8 #[.string (str l)] wx fun e w' => e = .returned (.tuple #[.agg (rtc (rget l).1).toArray, .bool (rget l).2]) ∧ Below wx.heap.size wx w') := Lib.hid (fun wx => rrtget_any l wx (by omega))
    have HTO := Lib.hid (fun wx => rtto_any x wx)
    have HCK := Lib.hid (fun wx => rtcheck_any x wx)
    have HRCK := Lib.hid (fun wx => rrtcheck_any x wx)
    obtain ⟨sp, hsp⟩ : ∃ sp, sp = str (rput x) := ⟨_, rfl⟩
    have HPT : Hid (∀ wx, Calls Try.prog 12 #[.agg (rtc x).toArray] wx fun e w' => e = .returned (.string sp) ∧ Below wx.heap.size wx w') := Lib.hid (fun wx => by rw [hsp]; exact rtput_any x wx)
    have HRPT : Hid (∀ wx, Calls Try.prog 13 #[.agg (rtc x).toArray] wx fun e w' => e = .returned (.string sp) ∧ Below wx.heap.size wx w') := Lib.hid (fun wx => by rw [hsp]; exact rrtput_any x wx)
    have HFR := Lib.hid (fun wx => rtfrom_any (rget l).1 wx)
    have HEQ := Lib.hid (fun wx => eq_rrtq 9998 (rget l).1 (rget l).1 wx)
    rw [decide_eq_true rfl] at HEQ
    generalize rget l = y at HG HRG HFR HEQ
    obtain ⟨⟨p, q, r⟩, is⟩ := y
    obtain ⟨s, hs⟩ : ∃ s, s = str l := ⟨_, rfl⟩
    rw [← hs] at hz HG HRG ⊢
    generalize decide (Rok x) = dk at HCK HRCK
    obtain ⟨a, b, c⟩ := x
    have HG : Hid (∀ wx, Calls Try.prog 7 #[.string s] wx fun e w' => e = .returned (.tuple #[.agg #[.int .i64 p, .int .i64 q, .int .i64 r], .bool is]) ∧ Below wx.heap.size wx w') := HG
    have HRG : Hid (∀ wx, Calls Try.prog 8 #[.string s] wx fun e w' => e = .returned (.tuple #[.agg #[.int .i64 p, .int .i64 q, .int .i64 r], .bool is]) ∧ Below wx.heap.size wx w') := HRG
    show Calls Try.prog 3 #[.agg #[.int .i64 a, .int .i64 b, .int .i64 c], .string s] w _
    have HB1 : Hid (Blk (w.alloc (.cells #[.int .i64 a, .int .i64 b, .int .i64 c] 23)) w.heap.size [.int .i64 a, .int .i64 b, .int .i64 c]) := Lib.hid B1
    have HL1 : Hid (Below w.heap.size w (w.alloc (.cells #[.int .i64 a, .int .i64 b, .int .i64 c] 23))) := Lib.hid L1
    clear hn hs h2 B1 L1 hm hsp
    go_enter Try.func3, Try.ntmps3
    go_wp2_with fail
    refine (HG.out _).mono ?_
    rintro e w2 ⟨rfl, hb2⟩
    have B2 := HB1.out.later hb2
    have L2 := HL1.out.trans (hb2.mono HL1.out.size)
    have BX := Blk.new w2 [.int .i64 0, .int .i64 0, .int .i64 0] 25
    have THX := BX.there 0 3 (by simp)
    have BX3 : Blk ((w2.alloc (.cells #[.int .i64 0, .int .i64 0, .int .i64 0] 25)).setCells w2.heap.size 0 [.int .i64 p, .int .i64 q, .int .i64 r]) w2.heap.size [.int .i64 p, .int .i64 q, .int .i64 r] := BX.sets [.int .i64 p, .int .i64 q, .int .i64 r] 0 (by simp)
    have L23 : Below w2.heap.size w2 ((w2.alloc (.cells #[.int .i64 0, .int .i64 0, .int .i64 0] 25)).setCells w2.heap.size 0 [.int .i64 p, .int .i64 q, .int .i64 r]) := below_sets (Nat.le_refl _) _ 0 ((Below.refl w2.heap.size w2).alloc (Nat.le_refl _) _)
    obtain ⟨W3, hW3⟩ : ∃ W3, W3 = (w2.alloc (.cells #[.int .i64 0, .int .i64 0, .int .i64 0] 25)).setCells w2.heap.size 0 [.int .i64 p, .int .i64 q, .int .i64 r] := ⟨_, rfl⟩
    rw [← hW3] at BX3 L23
    have HW3 := Lib.hid hW3
    have HB3 := Lib.hid (B2.later L23)
    have HX3 := Lib.hid BX3
    have HL3 := Lib.hid (L2.trans (L23.mono L2.size))
    clear hW3 hb2 B2 L2 BX BX3 L23 HB1 HL1 HG
    go_wp2_with (first
      | (have TX1 := THX
         refine wpList_store_mid rfl 25 (.tmp 5) (.tmp 16) rfl w2.heap.size 0 #[.int .i64 p, .int .i64 q, .int .i64 r] rfl rfl TX1 info_rtto (by simp [Value.oneCell']) ?_
         simp only [Act.put, List.setIfInBounds_toArray, List.set_cons_zero, List.set_cons_succ]
         rw [← HW3.out]
         clear THX TX1 HW3)
      | fail)
    refine (HRG.out _).mono ?_
    rintro e w4 ⟨rfl, hb4⟩
    have B4 := HB3.out.later hb4
    have X4 := HX3.out.later hb4
    have L4 := HL3.out.trans (hb4.mono HL3.out.size)
    have BY := Blk.new w4 [.int .i64 0, .int .i64 0, .int .i64 0] 23
    have THY := BY.there 0 3 (by simp)
    have BY5 : Blk ((w4.alloc (.cells #[.int .i64 0, .int .i64 0, .int .i64 0] 23)).setCells w4.heap.size 0 [.int .i64 p, .int .i64 q, .int .i64 r]) w4.heap.size [.int .i64 p, .int .i64 q, .int .i64 r] := BY.sets [.int .i64 p, .int .i64 q, .int .i64 r] 0 (by simp)
    have L45 : Below w4.heap.size w4 ((w4.alloc (.cells #[.int .i64 0, .int .i64 0, .int .i64 0] 23)).setCells w4.heap.size 0 [.int .i64 p, .int .i64 q, .int .i64 r]) := below_sets (Nat.le_refl _) _ 0 ((Below.refl w4.heap.size w4).alloc (Nat.le_refl _) _)
    obtain ⟨W5, hW5⟩ : ∃ W5, W5 = (w4.alloc (.cells #[.int .i64 0, .int .i64 0, .int .i64 0] 23)).setCells w4.heap.size 0 [.int .i64 p, .int .i64 q, .int .i64 r] := ⟨_, rfl⟩
    rw [← hW5] at BY5 L45
    have HW5 := Lib.hid hW5
    have HB5 := Lib.hid (B4.later L45)
    have HX5 := Lib.hid (X4.later L45)
    have HY5 := Lib.hid BY5
    have HL5 := Lib.hid (L4.trans (L45.mono L4.size))
    clear hW5 hb4 B4 X4 L4 BY BY5 L45 HB3 HX3 HL3 HRG
    go_wp2_with (first
      | (have TX1 := THY
         refine wpList_store_mid rfl 23 (.tmp 7) (.tmp 21) rfl w4.heap.size 0 #[.int .i64 p, .int .i64 q, .int .i64 r] rfl rfl TX1 info_rtfrom (by simp [Value.oneCell']) ?_
         simp only [Act.put, List.setIfInBounds_toArray, List.set_cons_zero, List.set_cons_succ]
         rw [← HW5.out]
         clear THY TX1 HW5)
      | fail)
    have XV : Hid (∀ t : List Value, t = [.int .i64 a, .int .i64 b, .int .i64 c] → Value.agg t.toArray = .agg #[.int .i64 a, .int .i64 b, .int .i64 c]) := Lib.hid (fun t e => by rw [e])
    refine wp_region_steady [] 51 (by kernel_rfl) (by kernel_rfl) (by kernel_rfl) (by rfl) ?_
    refine wpG_run (by rfl) (by rfl) (.agg #[.int .i64 a, .int .i64 b, .int .i64 c]) (fun wx hl => exec_load 23 (.tmp 2) rfl w.heap.size 0 rfl [.int .i64 a, .int .i64 b, .int .i64 c] _ ((HB5.out.later hl.1).range 0 _ rfl) hur rfl info_rtfrom) ?_
    simp only [Act.put, List.setIfInBounds_toArray, List.set_cons_zero, List.set_cons_succ]
    refine wpG_call (by rfl) (by rfl) 10 #[.agg #[.int .i64 a, .int .i64 b, .int .i64 c]] (.agg #[.int .i64 a, .int .i64 b, .int .i64 c]) (by intro _; simp [go_sem]) (by kernel_rfl) (fun wx _ => HTO.out wx) ?_
    simp only [Act.put, List.setIfInBounds_toArray, List.set_cons_zero, List.set_cons_succ]
    refine wpG_call (by rfl) (by rfl) 9 #[.agg #[.int .i64 a, .int .i64 b, .int .i64 c]] (.bool dk) (by intro _; simp [go_sem]) (by kernel_rfl) (fun wx _ => HCK.out wx) ?_
    simp only [Act.put, List.setIfInBounds_toArray, List.set_cons_zero, List.set_cons_succ]
    refine wpG_run (by rfl) (by rfl) (.agg #[.int .i64 a, .int .i64 b, .int .i64 c]) (fun wx hl => exec_load 23 (.tmp 2) rfl w.heap.size 0 rfl [.int .i64 a, .int .i64 b, .int .i64 c] _ ((HB5.out.later hl.1).range 0 _ rfl) hur rfl info_rtfrom) ?_
    simp only [Act.put, List.setIfInBounds_toArray, List.set_cons_zero, List.set_cons_succ]
    refine wpG_call (by rfl) (by rfl) 11 #[.agg #[.int .i64 a, .int .i64 b, .int .i64 c]] (.bool dk) (by intro _; simp [go_sem]) (by kernel_rfl) (fun wx _ => HRCK.out wx) ?_
    simp only [Act.put, List.setIfInBounds_toArray, List.set_cons_zero, List.set_cons_succ]
    refine wpG_run (by rfl) (by rfl) (.bool true) (fun wx hl => by simp [go_sem]) ?_
    simp only [Act.put, List.setIfInBounds_toArray, List.set_cons_zero, List.set_cons_succ]
    iterate 1 (refine wpG_quiet (by rfl) (by rfl) (by rfl) (fun K hK => ?_); go_big_quiet_op; refine hK _ ?_; clear hK K)
    refine wpG_run (by rfl) (by rfl) (.agg #[.int .i64 a, .int .i64 b, .int .i64 c]) (fun wx hl => exec_load 23 (.tmp 2) rfl w.heap.size 0 rfl [.int .i64 a, .int .i64 b, .int .i64 c] _ ((HB5.out.later hl.1).range 0 _ rfl) hur rfl info_rtfrom) ?_
    simp only [Act.put, List.setIfInBounds_toArray, List.set_cons_zero, List.set_cons_succ]
    refine wpG_call (by rfl) (by rfl) 10 #[.agg #[.int .i64 a, .int .i64 b, .int .i64 c]] (.agg #[.int .i64 a, .int .i64 b, .int .i64 c]) (by intro _; simp [go_sem]) (by kernel_rfl) (fun wx _ => HTO.out wx) ?_
    simp only [Act.put, List.setIfInBounds_toArray, List.set_cons_zero, List.set_cons_succ]
    refine wpG_call (by rfl) (by rfl) 12 #[.agg #[.int .i64 a, .int .i64 b, .int .i64 c]] (.string sp) (by intro _; simp [go_sem]) (by kernel_rfl) (fun wx _ => HPT.out wx) ?_
    simp only [Act.put, List.setIfInBounds_toArray, List.set_cons_zero, List.set_cons_succ]
    refine wpG_run (by rfl) (by rfl) (.agg #[.int .i64 a, .int .i64 b, .int .i64 c]) (fun wx hl => exec_load 23 (.tmp 2) rfl w.heap.size 0 rfl [.int .i64 a, .int .i64 b, .int .i64 c] _ ((HB5.out.later hl.1).range 0 _ rfl) hur rfl info_rtfrom) ?_
    simp only [Act.put, List.setIfInBounds_toArray, List.set_cons_zero, List.set_cons_succ]
    refine wpG_call (by rfl) (by rfl) 13 #[.agg #[.int .i64 a, .int .i64 b, .int .i64 c]] (.string sp) (by intro _; simp [go_sem]) (by kernel_rfl) (fun wx _ => HRPT.out wx) ?_
    simp only [Act.put, List.setIfInBounds_toArray, List.set_cons_zero, List.set_cons_succ]
    refine wpG_run (by rfl) (by rfl) (.bool true) (fun wx hl => by simp [go_sem]) ?_
    simp only [Act.put, List.setIfInBounds_toArray, List.set_cons_zero, List.set_cons_succ]
    iterate 2 (refine wpG_quiet (by rfl) (by rfl) (by rfl) (fun K hK => ?_); go_big_quiet_op; refine hK _ ?_; clear hK K)
    refine wpG_run (by rfl) (by rfl) (.agg #[.int .i64 p, .int .i64 q, .int .i64 r]) (fun wx hl => exec_load 25 (.tmp 5) rfl w2.heap.size 0 rfl [.int .i64 p, .int .i64 q, .int .i64 r] _ ((HX5.out.later hl.1).range 0 _ rfl) hu rfl info_rtto) ?_
    simp only [Act.put, List.setIfInBounds_toArray, List.set_cons_zero, List.set_cons_succ]
    refine wpG_call (by rfl) (by rfl) 14 #[.agg #[.int .i64 p, .int .i64 q, .int .i64 r]] (.agg #[.int .i64 p, .int .i64 q, .int .i64 r]) (by intro _; simp [go_sem]) (by kernel_rfl) (fun wx _ => HFR.out wx) ?_
    simp only [Act.put, List.setIfInBounds_toArray, List.set_cons_zero, List.set_cons_succ]
    refine wpG_run (by rfl) (by rfl) (.agg #[.int .i64 p, .int .i64 q, .int .i64 r]) (fun wx hl => exec_load 23 (.tmp 7) rfl w4.heap.size 0 rfl [.int .i64 p, .int .i64 q, .int .i64 r] _ ((HY5.out.later hl.1).range 0 _ rfl) hur rfl info_rtfrom) ?_
    simp only [Act.put, List.setIfInBounds_toArray, List.set_cons_zero, List.set_cons_succ]
    refine wpG_run (by rfl) (by rfl) (.bool true) (fun wx hl => exec_eql 23 _ (.tmp 39) (.tmp 40) rfl #[.int .i64 p, .int .i64 q, .int .i64 r] #[.int .i64 p, .int .i64 q, .int .i64 r] rfl rfl (by kernel_rfl) true (HEQ.out wx)) ?_
    simp only [Act.put, List.setIfInBounds_toArray, List.set_cons_zero, List.set_cons_succ]
    iterate 4 (refine wpG_quiet (by rfl) (by rfl) (by rfl) (fun K hK => ?_); go_big_quiet_op; refine hK _ ?_; clear hK K)
    refine wpG_run (by rfl) (by rfl) (.bool true) (fun wx hl => by simp [go_sem]) ?_
    simp only [Act.put, List.setIfInBounds_toArray, List.set_cons_zero, List.set_cons_succ]
    iterate 2 (refine wpG_quiet (by rfl) (by rfl) (by rfl) (fun K hK => ?_); go_big_quiet_op; refine hK _ ?_; clear hK K)
    refine wpG_call (by rfl) (by rfl) 6 #[] (.bool true) (by intro _; simp [go_sem]) (by kernel_rfl) (fun wx _ => rt_awake wx) ?_
    simp only [Act.put, List.setIfInBounds_toArray, List.set_cons_zero, List.set_cons_succ]
    iterate 2 (refine wpG_quiet (by rfl) (by rfl) (by rfl) (fun K hK => ?_); go_big_quiet_op; refine hK _ ?_; clear hK K)
    refine wpG_nil fun wx hl _ => ?_
    have HL6 := Lib.hid (HL5.out.trans (hl.mono HL5.out.size))
    clear hl
    go_wp2_with fail
    go_ret
    exact ⟨rfl, HL6.out⟩
end Go.Proofs.Ytncbhpopobjaiaa

/- Roots: what the frame gives of a root, of an act on a disk's root, of a list of acts. -/
namespace Go.Proofs.Ytncbhpopobjaiaa
set_option linter.unusedVariables false
open Go Go.RowKit Go.Deep Go.ChangeShapes Go.WideShapes Go.ChangeAt

theorem rlist3 {α : Type} {l : List α} {a b c : α} (hl : l.length = 3) (h0 : (l.drop 0).take 1 = [a]) (h1 : (l.drop 1).take 1 = [b]) (h2 : (l.drop 2).take 1 = [c]) : l = [a, b, c] := by
  match l, hl with
  | [x, y, z], _ => simp at h0 h1 h2; rw [h0, h1, h2]
def OkI (z : Int) : Prop := -9223372036854775808 ≤ z ∧ z ≤ 9223372036854775807
def okRt (x : Rt) : Prop := OkI x.1 ∧ OkI x.2.1 ∧ OkI x.2.2
section
variable {H : Type} {enc : TypeId × Value → H} {W : World}
set_option maxRecDepth 100000 in
theorem trod_rt {sp : Nat → Bool} {held : Bool} {n : Nat} {cs : List Value} {x : DataW H × List MemPlace} (h : DataW.trod enc Try.prog W 0 sp held n 23 cs = some x) : ∃ p : Rt, cs = rtc p ∧ okRt p := by
  obtain ⟨y0, y1, y2, m, _, hl, h0, h1, h2⟩ := Go.Deep.trod_struct3 Try.underlying23 h
  have c1 : Try.prog.cellsOf 3 = 1 := by kernel_rfl
  have c3 : Try.prog.cellsOf 23 = 3 := by kernel_rfl
  rw [c3] at hl
  simp only [c1] at h0 h1 h2
  obtain ⟨a, e0, _, w0⟩ := DataW.trod_int Try.underlying3 h0
  obtain ⟨b, e1, _, w1⟩ := DataW.trod_int Try.underlying3 h1
  obtain ⟨c, e2, _, w2⟩ := DataW.trod_int Try.underlying3 h2
  exact ⟨(a, b, c), rlist3 hl e0 e1 e2, i64_wf w0, i64_wf w1, i64_wf w2⟩
theorem open_rt {r : Reach} {base : Nat} {v : Value} {d : DataW H} {ps : List MemPlace}
    (hv : Value.okWide Try.prog W r base 23 v) (h : DataW.Trod enc Try.prog W 0 (fun _ => true) true 23 v d ps) : ∃ x : Rt, v = .agg (rtc x).toArray ∧ okRt x := by
  simp only [Value.okWide, Try.underlying23] at hv
  obtain ⟨cs, rfl, hrest⟩ := hv
  obtain ⟨fuel, hf⟩ := h
  obtain ⟨p, e, ok⟩ := trod_rt hf
  refine ⟨p, ?_, ok⟩
  simp only [Value.cells] at e
  rw [← e]
/-- An act: what is done, a number, a root, what stays (a bare slice), a text. -/
abbrev Ra := Int × Int × Rt × Value × ByteArray
def rac (x : Ra) : List Value := [.int .i64 x.1, .int .i64 x.2.1, .int .i64 x.2.2.1.1, .int .i64 x.2.2.1.2.1, .int .i64 x.2.2.1.2.2, x.2.2.2.1, .string x.2.2.2.2]
theorem ra_len (l : List Ra) : ∀ x ∈ l, (rac x).length = 7 := fun _ _ => rfl
def okRa (W : World) (x : Ra) : Prop := OkI x.1 ∧ OkI x.2.1 ∧ okRt x.2.2.1 ∧ x.2.2.2.2.size ≤ maxLen ∧ ∃ l, SeenI W x.2.2.2.1 l ∧ ∀ z ∈ l, OkI z
theorem rlist7 {α : Type} {l : List α} {a b c d e f g : α} (hl : l.length = 7) (h0 : (l.drop 0).take 1 = [a]) (h1 : (l.drop 1).take 1 = [b]) (h2 : (l.drop 2).take 3 = [c, d, e]) (h5 : (l.drop 5).take 1 = [f]) (h6 : (l.drop 6).take 1 = [g]) : l = [a, b, c, d, e, f, g] := by
  match l, hl with
  | [x, y, z, u, v, s, t], _ =>
    simp at h0 h1 h2 h5 h6
    obtain ⟨rfl, rfl, rfl⟩ := h2
    rw [h0, h1, h5, h6]
set_option maxRecDepth 100000 in
theorem trod_ra {n : Nat} {cs : List Value} {x : DataW H × List MemPlace} (h : DataW.trod enc Try.prog W 0 (fun _ => true) true n 47 cs = some x) : ∃ p : Ra, cs = rac p ∧ okRa W p := by
  obtain ⟨y0, y1, y2, y3, y4, m, _, hl, h0, h1, h2, h3, h4⟩ := trod_struct5 Try.underlying47 h
  have c1 : Try.prog.cellsOf 3 = 1 := by kernel_rfl
  have c2 : Try.prog.cellsOf 9 = 1 := by kernel_rfl
  have c3 : Try.prog.cellsOf 45 = 1 := by kernel_rfl
  have c5 : Try.prog.cellsOf 23 = 3 := by kernel_rfl
  have c7 : Try.prog.cellsOf 47 = 7 := by kernel_rfl
  rw [c7] at hl
  simp only [c1] at h0 h1
  simp only [c5] at h2
  simp only [c3] at h3
  simp only [c2] at h4
  obtain ⟨a, e0, _, w0⟩ := DataW.trod_int Try.underlying3 h0
  obtain ⟨b, e1, _, w1⟩ := DataW.trod_int Try.underlying3 h1
  obtain ⟨p, e2, w2⟩ := trod_rt h2
  obtain ⟨v, l, e3, hv, hz⟩ := open_intcell Try.underlying45 Try.underlying3 c1 h3
  obtain ⟨st, e4, _, w4⟩ := DataW.trod_string Try.underlying9 h4
  exact ⟨(a, b, p, v, st), rlist7 hl e0 e1 e2 e3 e4, i64_wf w0, i64_wf w1, w2, by simpa [Lit.wf] using w4, l, hv, hz⟩
theorem open_racts {r : Reach} {base : Nat} {v : Value} {d : DataW H} {ps : List MemPlace}
    (hv : Value.okWide Try.prog W r base 37 v) (h : DataW.Trod enc Try.prog W 0 (fun _ => true) true 37 v d ps) :
    ∃ A n c, ∃ l : List Ra, v = .slice A n c ∧ n ≤ c ∧ c ≤ maxLen ∧ l.length = n ∧ (∀ z ∈ l, okRa W z) ∧ Sees W W.heap.size A (rws rac l) :=
  open_rows (f := rac) (sz := 7) (ok := okRa W) Try.underlying37 (by kernel_rfl) (by decide) (fun _ _ => rfl) (fun n cs x h => trod_ra h) hv h
end
end Go.Proofs.Ytncbhpopobjaiaa
