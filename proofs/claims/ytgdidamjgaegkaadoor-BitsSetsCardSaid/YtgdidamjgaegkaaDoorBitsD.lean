/- What is in a set, with a number, without it, how many there are, and which: the walk of BitsSets. -/
import Derived.Test.YtgdidamjgaegkaaDoorSetK
import Derived.Test.YtgdidamjgaegkaaDoorBitsC
import Derived.Test.YtgdidamjgaegkaaDoorBitsB
namespace Go.Proofs.YtgdidamjgaegkaaDoor
set_option linter.unusedVariables false
open Go Go.RowKit Go.Shelf BitM MskM
attribute [local go_sem] Oper.semAt_some

set_option maxRecDepth 100000 in
/-- Is all of one mask in another, by the document? -/
theorem rwithin_any (x y : BitVec 32) (w : World) : Calls Tryd.prog 25 #[.int .u32 (x.toNat : Int), .int .u32 (y.toNat : Int)] w fun e w' =>
    e = .returned (.bool (decide (∀ i : Nat, i < 32 → has x (i : Int) = true → has y (i : Int) = true))) ∧ w = w' := by
  obtain ⟨R, hR⟩ : ∃ R, R = decide (∀ i : Nat, i < 32 → has x (i : Int) = true → has y (i : Int) = true) := ⟨_, rfl⟩
  rw [← hR]
  have HR := Lib.hid hR
  clear hR
  have HX := Lib.hid (fun (k : Int) (wx : World) => rhas_any x k wx)
  have HY := Lib.hid (fun (k : Int) (wx : World) => rhas_any y k wx)
  go_enter Tryd.func25, Tryd.ntmps25
  go_wp2_with fail
  go_loopw [5] (fun i wr => ∃ k : Nat, k ≤ 32 ∧ i = .int .i64 k ∧ Hid (∀ i : Nat, i < k → has x (i : Int) = true → has y (i : Int) = true) ∧ wr = w) (fun i _ => 32 - (intOf i).toNat)
  case atStart => exact ⟨0, by omega, rfl, Lib.hid (fun i hi => absurd hi (by omega)), rfl⟩
  case round =>
    obtain ⟨k, hk, rfl, HK, rfl⟩ := hrel
    by_cases hlt : k < 32
    · have d8 : (k : Int) < 32 := by omega
      cases hx : has x (k : Int) with
      | false =>
        have H1 := Lib.hid (HX.out (k : Int) wr)
        rw [hx] at H1
        have HX1 := Lib.hid hx
        clear hx
        go_wp2_with fail
        refine H1.out.mono ?_
        rintro e w' ⟨rfl, rfl⟩
        go_wp2_with fail
        go_roundw
        case rel => exact ⟨k + 1, by omega, by go_num, Lib.hid (fun i hi h => by
          by_cases e : i = k
          · subst e; rw [HX1.out] at h; exact absurd h (by simp)
          · exact HK.out i (by omega) h), trivial⟩
        case measure => simp [intOf]; omega
      | true =>
        cases hy : has y (k : Int) with
        | true =>
          have H1 := Lib.hid (HX.out (k : Int) wr)
          have H2 := Lib.hid (HY.out (k : Int) wr)
          rw [hx] at H1
          rw [hy] at H2
          have HX1 := Lib.hid hy
          clear hx hy
          go_wp2_with fail
          refine H1.out.mono ?_
          rintro e w' ⟨rfl, rfl⟩
          go_wp2_with fail
          refine H2.out.mono ?_
          rintro e w' ⟨rfl, rfl⟩
          go_wp2_with fail
          go_roundw
          case rel => exact ⟨k + 1, by omega, by go_num, Lib.hid (fun i hi h => by
            by_cases e : i = k
            · subst e; exact HX1.out
            · exact HK.out i (by omega) h), trivial⟩
          case measure => simp [intOf]; omega
        | false =>
          have H1 := Lib.hid (HX.out (k : Int) wr)
          have H2 := Lib.hid (HY.out (k : Int) wr)
          have HRR : Hid (R = false) := Lib.hid (by
            rw [HR.out]
            refine decide_eq_false ?_
            intro h
            rw [h k hlt hx] at hy
            exact absurd hy (by simp))
          rw [hx] at H1
          rw [hy] at H2
          clear hx hy
          go_wp2_with fail
          refine H1.out.mono ?_
          rintro e w' ⟨rfl, rfl⟩
          go_wp2_with fail
          refine H2.out.mono ?_
          rintro e w' ⟨rfl, rfl⟩
          go_wp2_with fail
          go_ret
          exact ⟨by rw [HRR.out]; rfl, rfl⟩
    · obtain rfl : k = 32 := by omega
      have HRR : Hid (R = true) := Lib.hid (by rw [HR.out]; exact decide_eq_true HK.out)
      go_wp2_with fail
      go_ret
      exact ⟨by rw [HRR.out]; rfl, rfl⟩

theorem within_dec (x y : BitVec 32) : (x &&& ~~~y == 0#32) = decide (∀ i : Nat, i < 32 → has x (i : Int) = true → has y (i : Int) = true) := by
  rw [Bool.eq_iff_iff, beq_iff_eq, decide_eq_true_eq]
  constructor
  · intro h i hi hx
    have := congrArg (fun v : BitVec 32 => v.getLsbD i) h
    simp only [BitVec.getLsbD_and, BitVec.getLsbD_not, hi, decide_true, Bool.true_and, BitVec.getLsbD_zero] at this
    rw [has_in x hi] at hx
    rw [has_in y hi]
    rw [hx] at this
    simpa using this
  · intro h
    apply BitVec.eq_of_getLsbD_eq
    intro i hi
    simp only [BitVec.getLsbD_and, BitVec.getLsbD_not, hi, decide_true, Bool.true_and, BitVec.getLsbD_zero]
    have := h i hi
    rw [has_in x hi, has_in y hi] at this
    cases hx : x.getLsbD i
    · rfl
    · rw [this hx]; rfl
theorem within_or (x y : BitVec 32) : (x &&& ~~~(x ||| y) == 0#32) = true := by
  rw [beq_iff_eq]
  apply BitVec.eq_of_getLsbD_eq
  intro i hi
  simp only [BitVec.getLsbD_and, BitVec.getLsbD_not, BitVec.getLsbD_or, hi, decide_true, Bool.true_and, BitVec.getLsbD_zero]
  cases x.getLsbD i <;> simp
theorem same_world {P : Program} {f : FuncId} {args : Array Value} {v : Value} {wx : World} (h : Calls P f args wx fun e w' => e = .returned v ∧ wx = w') : Calls P f args wx fun e w' => e = .returned v ∧ Below wx.heap.size wx w' :=
  h.mono fun e w' h => ⟨h.1, h.2 ▸ Below.refl _ _⟩
theorem count_any (x : BitVec 32) (w : World) : Calls Tryd.prog 23 #[.int .u32 (x.toNat : Int)] w fun e w' => e = .returned (.int .i64 (((lst x 32).length : Nat) : Int)) ∧ Below w.heap.size w w' := by
  have H := Lib.hid (ones_any x w)
  go_enter Tryd.func23, Tryd.ntmps23
  go_wp2_with fail
  refine H.out.mono ?_
  rintro e w1 ⟨rfl, hb⟩
  go_wp2_with fail
  go_ret
  exact ⟨rfl, hb⟩

theorem each_not_nil (Bn : Nat) (wx : World) : (binOp BinOp.eql 29 (.func (.func 71) #[] #[.pointer (some ⟨Bn, 0, none⟩)]) .nilFunc).run Tryd.prog wx = .ok (.bool false) wx := by kernel_rfl

set_option maxRecDepth 100000 in
set_option maxHeartbeats 6400000 in
theorem walk_bsets (x y : BitVec 32) (A : Option Addr) (n c : Nat) (l : List Int) (w : World) (hn : l.length = n) (hs : Sees w w.heap.size A (ivs l)) (hm : n ≤ maxLen) :
    Calls Tryd.prog 3 #[.int .u32 (x.toNat : Int), .int .u32 (y.toNat : Int), .slice A n c] w fun e w' => e = .returned (.bool true) ∧ Below w.heap.size w w' := by
  unfold maxLen at hm
  have HA := Lib.hid (fun wx : World => baw_any wx)
  by_cases h200 : 200 < n
  · have h2 : (200 : Int) < (n : Int) := by omega
    clear hs hn
    go_enter Tryd.func3, Tryd.ntmps3
    go_wp2_with fail
    refine (HA.out _).mono ?_
    rintro e w1 ⟨rfl, hb⟩
    have b1 := Boxed.new w 4 (.bool false)
    have b2 : Boxed w1 w.heap.size 4 (.bool false) := (hb.block _ b1.lt).trans b1
    have c2 := b2.cell
    have f2 := b2.frozen
    have b3 := b2.set (.bool true)
    have c3 := b3.cell
    have hbw : Below w.heap.size w (w1.setCell ⟨w.heap.size, 0, none⟩ (.bool true)) := (((Below.refl _ w).alloc (Nat.le_refl _) _).trans (hb.mono (by simp))).setCell (p := ⟨w.heap.size, 0, none⟩) (Nat.le_refl _) _
    clear b1 b2 b3 hb
    go_wp2_with fail
    exact bodyPost_ret (v := .bool true) (by simp [results, go_sem, c3]) rfl ⟨rfl, hbw⟩
  · have h2 : ¬ (200 : Int) < (n : Int) := by omega
    have HN := Lib.hid hn
    have hn200 : n ≤ 200 := by omega
    clear hn h200
    have HOF := Lib.hid (fun (wx : World) (hb : Below w.heap.size w wx) => of_any A n c l wx w.heap.size HN.out (hs.below hb) (by omega))
    have HSS := Lib.hid (fun (wx : World) (hb : Below w.heap.size w wx) => hs.below hb)
    have HH1' := Lib.hid (fun (k : Int) (wx : World) => same_world (has_any x k wx))
    have HH2' := Lib.hid (fun (k : Int) (wx : World) => same_world (rhas_any x k wx))
    have HP1' := Lib.hid (fun (k : Int) (wx : World) => same_world (with_any x k wx))
    have HP2' := Lib.hid (fun (k : Int) (wx : World) => same_world (rwith_all x k wx))
    have HD1' := Lib.hid (fun (k : Int) (wx : World) => same_world (without_any x k wx))
    have HD2' := Lib.hid (fun (k : Int) (wx : World) => same_world (rwithout_any x k wx))
    have HRP := Lib.hid (fun (z : BitVec 32) (k : Int) (wx : World) => rwith_all z k wx)
    have HLI := Lib.hid (fun wx : World => rlist_any x wx)
    have HEA := Lib.hid (fun wx : World => each_any x wx)
    clear hs
    have b0 := Boxed.new w 4 (.bool false)
    have hb0 : Below w.heap.size w (w.alloc (.cells #[.bool false] 4)) := (Below.refl _ w).alloc (Nat.le_refl _) _
    refine (callsIn_wide (n := 5)).1 ?_
    refine callsIn_of_wp_marks Tryd.func3 rfl trivial ?_ rfl
    simp only [Tryd.ntmps3, List.size_toArray, List.length_cons, List.length_nil, Nat.reduceAdd, Nat.reduceSub, Array.replicate_succ, Array.replicate_zero, List.push_toArray, List.append_toArray, List.nil_append, List.cons_append]
    gi_wp2_with fail
    obtain ⟨X, hX⟩ : ∃ X, X = (x.toNat : Int) := ⟨_, rfl⟩
    rw [← hX] at HH1' HH2' HP1' HP2' HD1' HD2'
    have HX := Lib.hid hX
    try rw [← hX]
    clear hX
    gi_loopw [7, 8] (fun s i wr => ∃ k : Nat, k ≤ n ∧ i = .int .i64 k ∧ (∃ z : BitVec 32, s = .int .u32 (z.toNat : Int) ∧ Hid (z = ofl (l.take k))) ∧ Boxed wr w.heap.size 4 (.bool false) ∧ Below w.heap.size w wr) (fun _ i _ => n - (intOf i).toNat)
    case atStart => exact ⟨0, Nat.zero_le _, rfl, ⟨0#32, rfl, Lib.hid rfl⟩, b0, hb0⟩
    case round =>
      obtain ⟨k, hk, rfl, ⟨z, rfl, HZ⟩, hbx, hbr⟩ := hrel
      by_cases hlt : k < n
      · have hkl : k < l.length := by rw [HN.out]; exact hlt
        have hkv : k < (ivs l).length := by rw [ivs_length]; exact hkl
        obtain ⟨b, o, rfl, hb, hc⟩ := HSS.out wr hbr (by omega)
        have hck := hc k hkv
        have he : (ivs l)[k] = .int .i64 l[k] := by simp [ivs]
        rw [he] at hck
        have HZ2 : Hid (put z l[k] = ofl (l.take (k + 1))) := Lib.hid (by rw [List.take_succ_eq_append_getElem hkl, ofl_snoc, ← HZ.out])
        obtain ⟨v, hv⟩ : ∃ v, v = l[k] := ⟨_, rfl⟩
        rw [← hv] at hck HZ2
        have HH1 := Lib.hid (HH1'.out v)
        have HH2 := Lib.hid (HH2'.out v)
        have HP1 := Lib.hid (HP1'.out v)
        have HP2 := Lib.hid (HP2'.out v)
        have HD1 := Lib.hid (HD1'.out v)
        have HD2 := Lib.hid (HD2'.out v)
        obtain ⟨hv1, e1⟩ : ∃ h, h = has x v := ⟨_, rfl⟩
        obtain ⟨pv, e2⟩ : ∃ h, h = ((put x v).toNat : Int) := ⟨_, rfl⟩
        obtain ⟨dv, e3⟩ : ∃ h, h = ((del x v).toNat : Int) := ⟨_, rfl⟩
        rw [← e1] at HH1 HH2
        rw [← e2] at HP1 HP2
        rw [← e3] at HD1 HD2
        have hbs : b < wr.heap.size := Nat.lt_of_lt_of_le hb hbr.size
        have hkk : ∀ kk : LW wr, kk.val.cell? ⟨b, o + k, none⟩ = some (.int .i64 v) := fun kk => (kk.le.cell (p := ⟨b, o + k, none⟩) hbs).trans hck
        have HW := Lib.hid (fun wx : World => HRP.out z v wx)
        obtain ⟨z2, hz2⟩ : ∃ z2, z2 = put z v := ⟨_, rfl⟩
        rw [← hz2] at HZ2 HW
        clear hv hz2 he hkl hkv hc e1 e2 e3 HH1' HH2' HP1' HP2' HD1' HD2' HRP HLI HEA
        have hki : (k : Int) < (n : Int) := by omega
        have hki0 : (0 : Int) ≤ (k : Int) := by omega
        gi_wp2_with fail
        refine wpIn_region_steady (free_wide _ _) (by kernel_rfl) [] 129 (by kernel_rfl) (by kernel_rfl) (by kernel_rfl) (by rfl) ?_
        iterate 5 (refine wpG_quiet (by rfl) (by rfl) (by rfl) (fun K hK => ?_); go_big_quiet_op; refine hK _ ?_; clear hK K)
        refine wpG_call (by rfl) (by rfl) 14 #[.int .u32 X, .int .i64 v] (.bool hv1) (by intro _; simp [go_sem]) (by kernel_rfl) (fun w1 hl => (HH1.out w1)) ?_
        simp only [Act.put, List.setIfInBounds_toArray, List.set_cons_zero, List.set_cons_succ]
        iterate 5 (refine wpG_quiet (by rfl) (by rfl) (by rfl) (fun K hK => ?_); go_big_quiet_op; refine hK _ ?_; clear hK K)
        refine wpG_call (by rfl) (by rfl) 15 #[.int .u32 X, .int .i64 v] (.bool hv1) (by intro _; simp [go_sem]) (by kernel_rfl) (fun w1 hl => (HH2.out w1)) ?_
        simp only [Act.put, List.setIfInBounds_toArray, List.set_cons_zero, List.set_cons_succ]
        refine wpG_run (by rfl) (by rfl) (.bool false) (fun w1 hl => by simp [go_sem]) ?_
        simp only [Act.put, List.setIfInBounds_toArray, List.set_cons_zero, List.set_cons_succ]
        iterate 1 (refine wpG_quiet (by rfl) (by rfl) (by rfl) (fun K hK => ?_); go_big_quiet_op; refine hK _ ?_; clear hK K)
        iterate 5 (refine wpG_quiet (by rfl) (by rfl) (by rfl) (fun K hK => ?_); go_big_quiet_op; refine hK _ ?_; clear hK K)
        refine wpG_call (by rfl) (by rfl) 16 #[.int .u32 X, .int .i64 v] (.int .u32 pv) (by intro _; simp [go_sem]) (by kernel_rfl) (fun w1 hl => (HP1.out w1)) ?_
        simp only [Act.put, List.setIfInBounds_toArray, List.set_cons_zero, List.set_cons_succ]
        iterate 5 (refine wpG_quiet (by rfl) (by rfl) (by rfl) (fun K hK => ?_); go_big_quiet_op; refine hK _ ?_; clear hK K)
        refine wpG_call (by rfl) (by rfl) 17 #[.int .u32 X, .int .i64 v] (.int .u32 pv) (by intro _; simp [go_sem]) (by kernel_rfl) (fun w1 hl => (HP2.out w1)) ?_
        simp only [Act.put, List.setIfInBounds_toArray, List.set_cons_zero, List.set_cons_succ]
        refine wpG_run (by rfl) (by rfl) (.bool false) (fun w1 hl => by simp [go_sem]) ?_
        simp only [Act.put, List.setIfInBounds_toArray, List.set_cons_zero, List.set_cons_succ]
        iterate 2 (refine wpG_quiet (by rfl) (by rfl) (by rfl) (fun K hK => ?_); go_big_quiet_op; refine hK _ ?_; clear hK K)
        iterate 5 (refine wpG_quiet (by rfl) (by rfl) (by rfl) (fun K hK => ?_); go_big_quiet_op; refine hK _ ?_; clear hK K)
        refine wpG_call (by rfl) (by rfl) 18 #[.int .u32 X, .int .i64 v] (.int .u32 dv) (by intro _; simp [go_sem]) (by kernel_rfl) (fun w1 hl => (HD1.out w1)) ?_
        simp only [Act.put, List.setIfInBounds_toArray, List.set_cons_zero, List.set_cons_succ]
        iterate 5 (refine wpG_quiet (by rfl) (by rfl) (by rfl) (fun K hK => ?_); go_big_quiet_op; refine hK _ ?_; clear hK K)
        refine wpG_call (by rfl) (by rfl) 19 #[.int .u32 X, .int .i64 v] (.int .u32 dv) (by intro _; simp [go_sem]) (by kernel_rfl) (fun w1 hl => (HD2.out w1)) ?_
        simp only [Act.put, List.setIfInBounds_toArray, List.set_cons_zero, List.set_cons_succ]
        refine wpG_run (by rfl) (by rfl) (.bool false) (fun w1 hl => by simp [go_sem]) ?_
        simp only [Act.put, List.setIfInBounds_toArray, List.set_cons_zero, List.set_cons_succ]
        iterate 1 (refine wpG_quiet (by rfl) (by rfl) (by rfl) (fun K hK => ?_); go_big_quiet_op; refine hK _ ?_; clear hK K)
        refine wpG_nil fun w1 hl _ => ?_
        have hc1 : w1.cell? ⟨b, o + k, none⟩ = some (.int .i64 v) := (hl.cell (p := ⟨b, o + k, none⟩) hbs).trans hck
        have hbx1 : Boxed w1 w.heap.size 4 (.bool false) := (hl.block _ hbx.lt).trans hbx
        have hbr1 := hbr.trans (hl.mono hbr.size)
        clear hkk hck hl hbx hbr
        gi_wp2_with fail
        refine ⟨trivial, (callsIn_wide.2 (HW.out w1)).mono ?_⟩
        rintro e w' ⟨rfl, rfl⟩
        gi_wp2_with fail
        go_roundw
        case rel => exact ⟨k + 1, by omega, by go_num, ⟨z2, rfl, HZ2⟩, hbx1, hbr1⟩
        case measure => simp [intOf]; omega
      · obtain rfl : k = n := by omega
        have HZ2 : Hid (z = ofl l) := Lib.hid (by rw [HZ.out, ← HN.out, List.take_length])
        clear HZ HH1' HH2' HP1' HP2' HD1' HD2' HRP
        gi_wp2_with fail
        have hbz := hbr.size
        have hwn : w.heap.size < wr.heap.size := hbx.lt
        have hb9 : Below w.heap.size w (wr.alloc (.cells #[.int .i64 0] 3)) := hbr.alloc hbz _
        have B9 := Boxed.new wr 3 (.int .i64 0)
        have B6 := hbx.alloc (.cells #[.int .i64 0] 3)
        have hLI := Lib.hid (HLI.out (wr.alloc (.cells #[.int .i64 0] 3)))
        rw [← HX.out] at hLI
        refine ⟨trivial, (callsIn_wide.2 hLI.out).mono ?_⟩
        rintro e w1 ⟨A1, c1, rfl, hown, hb1⟩
        rw [show (wr.alloc (.cells #[.int .i64 0] 3)).heap.size = wr.heap.size + 1 by simp] at hown hb1
        have hle9 : wr.heap.size + 1 ≤ w1.heap.size := by have := hb1.size; simpa using this
        replace B9 : Boxed w1 wr.heap.size 3 (.int .i64 0) := (hb1.block _ (by omega)).trans B9
        replace B6 : Boxed w1 w.heap.size 4 (.bool false) := (hb1.block _ (by omega)).trans B6
        replace hb9 := hb9.trans (hb1.mono (by omega))
        clear hLI hb1 hbx hbr
        obtain ⟨m, hm1⟩ : ∃ m, m = (lst x 32).length := ⟨_, rfl⟩
        rw [← hm1] at hown ⊢
        have HM1 := Lib.hid hm1
        have hm32 : m ≤ 32 := by rw [hm1]; exact lst_len x 32
        clear hm1
        gi_wp2_with fail
        have hE := HEA.out (w1.alloc (.cells #[.slice A1 m c1] 23))
        rw [← HX.out] at hE
        refine ⟨trivial, (callsIn_wide.2 hE).mono ?_⟩
        clear hE
        rintro e w2 ⟨rfl, rfl⟩
        have hnn := fun wx => each_not_nil (w1.heap.size + 1) wx
        gi_wp2_with fail
        clear hnn
        have B10 := (Boxed.new w1 23 (.slice A1 m c1)).alloc (.cells #[.int .u32 X] 22)
        have B11 := Boxed.new (w1.alloc (.cells #[.slice A1 m c1] 23)) 22 (.int .u32 X)
        rw [show (w1.alloc (.cells #[.slice A1 m c1] 23)).heap.size = w1.heap.size + 1 by simp] at B11
        replace B9 := (B9.alloc (.cells #[.slice A1 m c1] 23)).alloc (.cells #[.int .u32 X] 22)
        replace B6 := (B6.alloc (.cells #[.slice A1 m c1] 23)).alloc (.cells #[.int .u32 X] 22)
        replace hown := (hown.alloc (.cells #[.slice A1 m c1] 23)).alloc (.cells #[.int .u32 X] 22)
        replace hb9 := (hb9.alloc (by omega) (.cells #[.slice A1 m c1] 23)).alloc (by simp; omega) (.cells #[.int .u32 X] 22)
        have hsz : ((w1.alloc (.cells #[.slice A1 m c1] 23)).alloc (.cells #[.int .u32 X] 22)).heap.size = w1.heap.size + 2 := by simp
        obtain ⟨W0, hW0⟩ : ∃ W0, (w1.alloc (.cells #[.slice A1 m c1] 23)).alloc (.cells #[.int .u32 X] 22) = W0 := ⟨_, rfl⟩
        rw [hW0] at B6 B9 B10 B11 hown hb9 hsz ⊢
        clear hW0
        have HB11 : Hid (W0.cell? ⟨w1.heap.size + 1, 0, none⟩ = some (.int .u32 (x.toNat : Int))) := Lib.hid (by rw [← HX.out]; exact B11.cell)
        obtain ⟨nB, hnB⟩ : ∃ nB, nB = wr.heap.size := ⟨_, rfl⟩
        obtain ⟨lB, hlB⟩ : ∃ lB, lB = w1.heap.size := ⟨_, rfl⟩
        rw [← hnB] at hbz hwn B9 hown hle9 ⊢
        rw [← hlB] at hle9 B10 B11 HB11 hsz ⊢
        have HOW : W0.ownsRow (nB + 1) 3 1 (.slice A1 m c1) (ivs (lst x 32)).length (ivs (lst x 32)) := hown
        clear hnB hlB HEA HLI hown
        refine wpIn_rangeFunc_slot (F := Fence.wide) rfl (by omega) (gf := 71) (lb := #[.pointer (some ⟨lB + 1, 0, none⟩)]) rfl trivial (enters_of Tryd.func71 (by kernel_rfl) rfl)
          (each_told (5 - 1) (by omega) (lB + 1) x W0 (by omega) HB11.out) (fun h k => k.trans h) (fun W l o o' hl h h1 h2 => (belowK_b (w := W0) (n₀ := lB + 2) (by omega) W l o o' hl h h1 h2).cell (p := ⟨lB + 1, 0, none⟩) (by show lB + 1 < lB + 2; omega)) (Below.refl _ _)
          (fun pre W => (((∃ v, Boxed W lB 23 v ∧ W.ownsRow (nB + 1) 3 1 v (ivs (lst x 32)).length (ivs (lst x 32)) ∧ v = .slice A1 m c1) ∧ Boxed W nB 3 (.int .i64 ((pre.length : Nat) : Int))) ∧ (Boxed W w.heap.size 4 (.bool false) ∧ Boxed W (lB + 1) 22 (.int .u32 X))) ∧ Below w.heap.size w W)
          (fun _ _ _ => False)
          (OwnFrom.and (OwnFrom.and (OwnFrom.and (Own.from (holdsRow_own (nB + 1) lB 23 3 1 (fun _ : List Int => (ivs (lst x 32)).length) (fun _ => ivs (lst x 32)) (fun _ v => v = .slice A1 m c1)) _) (Own.from (boxed_own nB 3 (fun pre : List Int => .int .i64 ((pre.length : Nat) : Int))) _)) (OwnFrom.and (Own.from (boxed_own w.heap.size 4 (fun _ => .bool false)) _) (Own.from (boxed_own (lB + 1) 22 (fun _ => .int .u32 X)) _))) (ownFrom_below (Nat.le_refl _) (by omega)))
          (fun _ _ _ _ _ hs _ _ => hs)
          (fun _ _ _ _ h => h.elim) (fun _ _ h => h.elim)
          ⟨⟨⟨⟨_, B10, HOW, rfl⟩, B9⟩, B6, B11⟩, hb9⟩ 12 ?assign ?body ?done ?stop
        case assign =>
          intro l y W K hK
          simp only [Act.put, List.setIfInBounds_toArray, List.set_cons_zero, List.set_cons_succ] at hK ⊢
          gi_wp2
          exact hK
        case body =>
          rintro lp pre y1 W hpr ⟨⟨⟨⟨v, bL, hrow, rfl⟩, bN⟩, b6, bX⟩, hB⟩ hlt
          simp only [Act.put, List.setIfInBounds_toArray, List.set_cons_zero, List.set_cons_succ]
          obtain ⟨j, hj⟩ : ∃ j, j = pre.length := ⟨_, rfl⟩
          have hpl : (pre ++ [y1]).length = j + 1 := by rw [List.length_append, hj]; rfl
          have hjl : j < (lst x 32).length := by have := hpr.length_le; rw [hpl] at this; omega
          have hyv : (lst x 32)[j] = y1 := by
            obtain ⟨r, hr⟩ := hpr
            have : (lst x 32)[j]? = some y1 := by
              rw [← hr, List.append_assoc, List.getElem?_append_right (by omega), hj]
              simp
            rw [List.getElem?_eq_getElem hjl] at this
            injection this
          rw [← hj] at bN
          have hjm : j < m := by rw [HM1.out]; exact hjl
          have hown : Own W (nB + 1) 3 (.slice A1 m c1) (ivs (lst x 32)) := hrow
          obtain ⟨g, rfl, hg1, hg2⟩ := hown.block (by omega)
          have hcj := hown.cell j (by rw [ivs_length]; exact hjl)
          have hev : (ivs (lst x 32))[j]'(by rw [ivs_length]; exact hjl) = .int .i64 y1 := by simp [ivs, hyv]
          rw [hev] at hcj
          have cL := bL.cell
          have cN := bN.cell
          have fN := bN.frozen
          have hPL := Lib.hid hpl
          have hj1 : (j : Int) < (m : Int) := by omega
          have hj2 : ¬ ((m : Int) ≤ (j : Int)) := by omega
          have hj0 : (0 : Int) ≤ (j : Int) := by omega
          have hyy : (y1 != y1) = false := by simp
          have hm9 : (m : Int) ≤ 32 := by omega
          clear hpl hjl hyv hev hj hpr hlt HOF HSS
          gi_wp2_with fail
          have k1 := KeepsOthers.setCell W ⟨nB, 0, none⟩ (.int .i64 ((j : Int) + 1))
          have n9 := bN.set (.int .i64 ((j : Int) + 1))
          have n6 := b6.other (B' := nB) (by omega) (.int .i64 ((j : Int) + 1))
          have nX := bX.other (B' := nB) (by omega) (.int .i64 ((j : Int) + 1))
          have nL := bL.other (B' := nB) (by omega) (.int .i64 ((j : Int) + 1))
          have nR : (W.setCell ⟨nB, 0, none⟩ (.int .i64 ((j : Int) + 1))).ownsRow (nB + 1) 3 1 (.slice (some ⟨g, 0, none⟩) m c1) (ivs (lst x 32)).length (ivs (lst x 32)) := World.ownsRow.kept hrow (grownBy_setCell' W nB _) (.inr (by simp [Value.ownBlock]; omega))
          refine ⟨k1.from _, nX.cell.trans bX.cell.symm, ⟨⟨⟨nL, nR⟩, ?_⟩, n6, nX⟩, hB.setCell (p := ⟨nB, 0, none⟩) hbz _⟩
          rw [hPL.out]
          exact n9
        case done =>
          rintro D ys W hD rfl ⟨⟨⟨⟨v, bL, hrow, rfl⟩, bN⟩, b6, bX⟩, hB⟩ hK
          rw [← HM1.out] at bN
          have hDs : D < W.heap.size := (Array.getElem?_eq_some_iff.1 hK).1
          have cL : ∀ kk : LW W, kk.val.cell? ⟨lB, 0, none⟩ = some (.slice A1 m c1) := fun kk => (kk.le.cell (p := ⟨lB, 0, none⟩) bL.lt).trans bL.cell
          have cN : ∀ kk : LW W, kk.val.cell? ⟨nB, 0, none⟩ = some (.int .i64 (m : Int)) := fun kk => (kk.le.cell (p := ⟨nB, 0, none⟩) bN.lt).trans bN.cell
          have HCO := Lib.hid (fun wx : World => count_any x wx)
          rw [← HX.out, ← HM1.out] at HCO
          have HW1 := Lib.hid (fun wx : World => same_world (within_any x y wx))
          have HW2 := Lib.hid (fun wx : World => same_world (rwithin_any x y wx))
          rw [← within_dec] at HW2
          have HW3 := Lib.hid (fun wx : World => same_world (within_any x (x ||| y) wx))
          rw [within_or] at HW3
          have HOR := Lib.hid (BitM.u32_or x y)
          rw [← HX.out] at HW1 HW2 HW3 HOR
          obtain ⟨Y, hY⟩ : ∃ Y, Y = (y.toNat : Int) := ⟨_, rfl⟩
          rw [← hY] at HW1 HW2 HOR ⊢
          obtain ⟨XY, hXY⟩ : ∃ Y, Y = ((x ||| y).toNat : Int) := ⟨_, rfl⟩
          rw [← hXY] at HW3 HOR
          obtain ⟨wi, hwi⟩ : ∃ r, r = (x &&& ~~~y == 0#32) := ⟨_, rfl⟩
          rw [← hwi] at HW1 HW2
          have HO := Lib.hid (fun (wx : World) (hb : Below w.heap.size w wx) => same_world (HOF.out wx hb))
          rw [← HZ2.out] at HO
          obtain ⟨Z, hZ⟩ : ∃ Z, Z = (z.toNat : Int) := ⟨_, rfl⟩
          rw [← hZ] at HO ⊢
          have BL := Lib.hid (fun (wx : World) (hl : Le W wx) => hB.trans (hl.mono hB.size))
          have KB := Lib.hid b6
          have KK := Lib.hid hK
          clear hY hXY hwi hZ HOF HSS HX HM1 HZ2 hrow bL bN b6 bX hK hB
          gi_wp2
          refine wpIn_region_tail (free_wide _ _) (by kernel_rfl) [] 129 35 (by kernel_rfl) (by kernel_rfl) (by kernel_rfl) (by rfl) ?_
          simp only [List.take_succ_cons, List.take_zero, List.drop_succ_cons, List.drop_zero]
          iterate 1 (refine wpG_quiet (by rfl) (by rfl) (by rfl) (fun K hK => ?_); go_big_quiet_op; refine hK _ ?_; clear hK K)
          refine wpG_call (by rfl) (by rfl) 22 #[.slice A k c] (.int .u32 Z) (by intro _; simp [go_sem]) (by kernel_rfl) (fun w1 hl => (HO.out w1 (BL.out w1 hl.1))) ?_
          simp only [Act.put, List.setIfInBounds_toArray, List.set_cons_zero, List.set_cons_succ]
          iterate 1 (refine wpG_quiet (by rfl) (by rfl) (by rfl) (fun K hK => ?_); go_big_quiet_op; refine hK _ ?_; clear hK K)
          refine wpG_run (by rfl) (by rfl) (.bool true) (fun w1 hl => by simp [go_sem]) ?_
          simp only [Act.put, List.setIfInBounds_toArray, List.set_cons_zero, List.set_cons_succ]
          iterate 1 (refine wpG_quiet (by rfl) (by rfl) (by rfl) (fun K hK => ?_); go_big_quiet_op; refine hK _ ?_; clear hK K)
          iterate 3 (refine wpG_quiet (by rfl) (by rfl) (by rfl) (fun K hK => ?_); go_big_quiet_op; refine hK _ ?_; clear hK K)
          refine wpG_run (by rfl) (by rfl) (.bool true) (fun w1 hl => by simp [go_sem]) ?_
          simp only [Act.put, List.setIfInBounds_toArray, List.set_cons_zero, List.set_cons_succ]
          iterate 3 (refine wpG_quiet (by rfl) (by rfl) (by rfl) (fun K hK => ?_); go_big_quiet_op; refine hK _ ?_; clear hK K)
          refine wpG_call (by rfl) (by rfl) 23 #[.int .u32 X] (.int .i64 (m : Int)) (by intro _; simp [go_sem]) (by kernel_rfl) (fun w1 hl => (HCO.out w1)) ?_
          simp only [Act.put, List.setIfInBounds_toArray, List.set_cons_zero, List.set_cons_succ]
          iterate 1 (refine wpG_quiet (by rfl) (by rfl) (by rfl) (fun K hK => ?_); go_big_quiet_op; refine hK _ ?_; clear hK K)
          refine wpG_run (by rfl) (by rfl) (.bool true) (fun w1 hl => by simp [go_sem]) ?_
          simp only [Act.put, List.setIfInBounds_toArray, List.set_cons_zero, List.set_cons_succ]
          iterate 2 (refine wpG_quiet (by rfl) (by rfl) (by rfl) (fun K hK => ?_); go_big_quiet_op; refine hK _ ?_; clear hK K)
          iterate 2 (refine wpG_quiet (by rfl) (by rfl) (by rfl) (fun K hK => ?_); go_big_quiet_op; refine hK _ ?_; clear hK K)
          refine wpG_call (by rfl) (by rfl) 24 #[.int .u32 X, .int .u32 Y] (.bool wi) (by intro _; simp [go_sem]) (by kernel_rfl) (fun w1 hl => (HW1.out w1)) ?_
          simp only [Act.put, List.setIfInBounds_toArray, List.set_cons_zero, List.set_cons_succ]
          iterate 2 (refine wpG_quiet (by rfl) (by rfl) (by rfl) (fun K hK => ?_); go_big_quiet_op; refine hK _ ?_; clear hK K)
          refine wpG_call (by rfl) (by rfl) 25 #[.int .u32 X, .int .u32 Y] (.bool wi) (by intro _; simp [go_sem]) (by kernel_rfl) (fun w1 hl => (HW2.out w1)) ?_
          simp only [Act.put, List.setIfInBounds_toArray, List.set_cons_zero, List.set_cons_succ]
          refine wpG_run (by rfl) (by rfl) (.bool true) (fun w1 hl => by simp [go_sem]) ?_
          simp only [Act.put, List.setIfInBounds_toArray, List.set_cons_zero, List.set_cons_succ]
          iterate 2 (refine wpG_quiet (by rfl) (by rfl) (by rfl) (fun K hK => ?_); go_big_quiet_op; refine hK _ ?_; clear hK K)
          iterate 3 (refine wpG_quiet (by rfl) (by rfl) (by rfl) (fun K hK => ?_); go_big_quiet_op; refine hK _ ?_; clear hK K)
          refine wpG_run (by rfl) (by rfl) (.int .u32 XY) (fun w1 hl => by simp [go_sem]; exact HOR.out) ?_
          simp only [Act.put, List.setIfInBounds_toArray, List.set_cons_zero, List.set_cons_succ]
          refine wpG_call (by rfl) (by rfl) 24 #[.int .u32 X, .int .u32 XY] (.bool true) (by intro _; simp [go_sem]) (by kernel_rfl) (fun w1 hl => (HW3.out w1)) ?_
          simp only [Act.put, List.setIfInBounds_toArray, List.set_cons_zero, List.set_cons_succ]
          iterate 2 (refine wpG_quiet (by rfl) (by rfl) (by rfl) (fun K hK => ?_); go_big_quiet_op; refine hK _ ?_; clear hK K)
          refine wpG_call (by rfl) (by rfl) 13 #[] (.bool true) (by intro _; simp [go_sem]) (by kernel_rfl) (fun w1 hl => (HA.out w1)) ?_
          simp only [Act.put, List.setIfInBounds_toArray, List.set_cons_zero, List.set_cons_succ]
          iterate 1 (refine wpG_quiet (by rfl) (by rfl) (by rfl) (fun K hK => ?_); go_big_quiet_op; refine hK _ ?_; clear hK K)
          refine wpG_nil fun w1 hl _ => ?_
          have b61 : Boxed w1 w.heap.size 4 (.bool false) := (hl.block _ KB.out.lt).trans KB.out
          have c61 := b61.cell
          have f61 := b61.frozen
          have n6 := b61.set (.bool true)
          have hK1 := (hl.block D hDs).trans KK.out
          have hK2 := (KeepsOthers.setCell w1 ⟨w.heap.size, 0, none⟩ (.bool true)).same D _ hK1 rfl
          have hBW := (BL.out w1 hl).setCell (p := ⟨w.heap.size, 0, none⟩) (Nat.le_refl _) (.bool true)
          have r6 := (boxed_put n6 hK2).cell
          clear hl cL cN b61 hK1 KK KB BL
          gi_wp2_with fail
          refine ⟨by simp, .inl ⟨_, _, rfl, run_takeDeferred hK2, ?_⟩⟩
          exact ⟨.bool true, (by simp [results, go_sem, r6]), rfl, hBW.trans (belowK_b (w := w) (Nat.le_refl _) _ D _ _ (by omega) hK2 rfl rfl)⟩
        case stop =>
          rintro D c pre W _ _ h _
          exact h.elim
end Go.Proofs.YtgdidamjgaegkaaDoor
