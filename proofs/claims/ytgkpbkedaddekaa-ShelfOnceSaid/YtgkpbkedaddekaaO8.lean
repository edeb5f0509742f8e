/- Shelves: the program's Drop. -/
import Derived.Test.YtgkpbkedaddekaaO6
import Derived.Test.YtgkpbkedaddekaaO7
import Derived.Test.YtgkpbkedaddekaaO5
import Derived.Shelf.SlIterI.Nil
import Derived.Shelf.SortM.Plain
import Derived.Shelf.SortM.SortNone
import Derived.Shelf.SlGeneric
import Derived.Test.YtgkpbkedaddekaaProg
namespace Go.Proofs.Ytgkpbkedaddekaa
set_option linter.unusedVariables false
set_option linter.unusedSimpArgs false
open Go Go.RowKit BitM

theorem exec_delS {P : Program} {o : Oper} {a : Act} {w w' : World} {b : Nat} {t k : TypeId} (mo x : Operand) (ho : o.op = .call { callee := .builtin .delete, args := #[mo, x], argTypes := #[t, k] }) (z : Int) (hm : a.eval mo = .map (some b)) (hx : a.eval x = .int .i64 z)
    (hr : (Builtin.delete_ #[t, k] o.type #[.map (some b), .int .i64 z]).run P w = .ok (.tuple #[]) w') : (execOp a.eval o).run P w = .ok (.value (.tuple #[])) w' := by
  unfold execOp
  simp only [ho, resolve, invoke, builtin, Sem.run_bind, Sem.run_pure, Result.andThen_ok, List.map_toArray, List.map_cons, List.map_nil, hm, hx, hr]
theorem SfAt.newRow {X w6 : World} {L g b N m : Nat} {r : Option Nat} {s : Sh} {A3 : Option Addr} {c3 : Nat} {dd : List Dd} (h : SfAt X L g b r N s) (hg : X.grownBy w6 r) (hr : w6.ownsRow L 68 3 (.slice A3 m c3) m (rws ddc dd)) (hm : dd.length = m) (hat : RowS X r (Value.slice A3 m c3).ownBlock) :
    SfAt (w6.setCell ⟨g, 2, none⟩ (.slice A3 m c3)) L g b (Value.slice A3 m c3).ownBlock N { s with dd := dd } ∧ TurnS X (w6.setCell ⟨g, 2, none⟩ (.slice A3 m c3)) g b r ∧ w6.cell? ⟨g, 2, none⟩ = X.cell? ⟨g, 2, none⟩ ∧ w6.frozen? ⟨g, 2, none⟩ = false := by
  subst hm
  obtain ⟨A, c, c0, c1, c2, B, hrow, e, _⟩ := h.cells
  have hlt := h.lt
  have B6 := B.kept hg h.rg
  have M6 := h.map.kept hg (fun e => h.rb e.symm)
  have k1 : (Value.slice A3 dd.length c3).ownBlock ≠ some g := fun e2 => by
    rcases hat g e2 with h1 | h1
    · exact h.rg h1
    · omega
  have k2 : (Value.slice A3 dd.length c3).ownBlock ≠ some b := fun e2 => by
    rcases hat b e2 with h1 | h1
    · exact h.rb h1
    · omega
  refine ⟨SfAt.setDead h M6 B6 hr k1 k2, ?_, ?_, B6.frozen 2⟩
  · exact (TurnS.of_row hg g b).trans (TurnS.set w6 g b g 2 r (.slice A3 dd.length c3) (.inl rfl)) (RowS.refl _ _)
  · rw [c2]; exact B6.cell rfl
theorem rowS_of {X : World} {r r' : Option Nat} (h : r' = r ∨ r' = some X.heap.size) : RowS X r r' := fun k hk => by
  rcases h with rfl | h
  · exact .inl hk
  · rw [h] at hk
    cases hk
    exact .inr (Nat.le_refl _)
theorem run_dd1 (d : Dd) (w : World) : (Instr.buildSlice 27 1 #[(0, .agg #[.int .i64 d.id, .int .i64 d.vr, .int .i64 d.sq])]).run Try.prog w = .ok (.slice (some ⟨w.heap.size, 0, none⟩) 1 1) (w.alloc (.cells (ddc d).toArray 68)) := by kernel_rfl
theorem exec_litS {P : Program} {o : Oper} {a : Act} {w w' : World} (t : TypeId) (x : Operand) (ho : o.op = .buildSlice t 1 #[(0, x)]) (v r : Value) (hx : a.eval x = v) (hr : (Instr.buildSlice t 1 #[(0, v)]).run P w = .ok r w') : (execOp a.eval o).run P w = .ok (.value r) w' := by
  unfold execOp
  simp only [ho, List.map_toArray, List.map_cons, List.map_nil, hx, Sem.run_bind, hr, Result.andThen_ok, Sem.run_pure]
set_option maxRecDepth 100000 in
set_option maxHeartbeats 6400000 in
theorem sdrop_any (L g b : Nat) (r : Option Nat) (N : Nat) (s : Sh) (w : World) (h : SfAt w L g b r N s) (x q : Int) (hx : (Lit.int .i64 x).wf = true) (hok : ShOk s) (hL : L ≤ w.heap.size) :
    Calls Try.prog 15 #[.pointer (some ⟨g, 0, none⟩), .int .i64 x, .int .i64 q] w fun e w' => e = .returned (.int .i64 (sdrop s x q).2) ∧ ∃ r', SfAt w' L g b r' N (sdrop s x q).1 ∧ TurnS w w' g b r ∧ RowS w r r' := by
  have huc := Try.underlying44
  obtain ⟨Z, hZ⟩ : ∃ Z, Z = ccl zcd := ⟨_, rfl⟩
  have HZL := Lib.hid (show Z.length = 27 by rw [hZ]; rfl)
  have HZ1 := Lib.hid (show ∀ v ∈ Z, v.oneCell' = true by rw [hZ]; exact ccl_one _)
  have HZZ : Hid (Z.toArray = #[Value.int .i64 0, .int .i64 0, .int .u32 0, .int .i64 0, .int .i64 0, .string { data := #[] }, .int .i64 0, .int .i64 0, .string { data := #[] }, .int .i64 0, .int .i64 0, .string { data := #[] }, .int .i64 0, .int .i64 0, .string { data := #[] }, .int .i64 0, .int .i64 0, .string { data := #[] }, .int .i64 0, .int .i64 0, .string { data := #[] }, .int .i64 0, .int .i64 0, .string { data := #[] }, .int .i64 0, .int .i64 0, .string { data := #[] }]) := Lib.hid (by rw [hZ]; exact zc27s)
  have HZB : Hid (∀ w, (Instr.build 44 #[]).run Try.prog w = .ok (.agg Z.toArray) w) := Lib.hid (fun w => by rw [hZ]; kernel_rfl)
  obtain ⟨i1, ji, jz0, jz1, jz2⟩ := info_dead
  have hdd := hok.dead
  have HGET := Lib.hid (get_any L g b r N s w h x hx hok.len (by omega))
  have hgok : okCd (sget s x).1 := by
    unfold sget
    cases hk : kget (toKV s.cs) x with
    | none => rfl
    | some y => exact hok.len y (get_own hk).2
  obtain ⟨V, hV⟩ : ∃ V, V = ccl (sget s x).1 := ⟨_, rfl⟩
  have HVL := Lib.hid (show V.length = 27 by rw [hV]; exact ccl_len hgok)
  have HV1 := Lib.hid (show ∀ v ∈ V, v.oneCell' = true by rw [hV]; exact ccl_one _)
  rw [← hV] at HGET
  have HH := Lib.hid h
  cases hk : kget (toKV s.cs) x with
  | none =>
    have HR : Hid (sdrop s x q = (s, sgone s x)) := Lib.hid (by unfold sdrop; rw [hk])
    have hsg : sget s x = (zcd, sgone s x) := by unfold sget; rw [hk]
    have hne : (sgone s x == 0) = false := by unfold sgone; split <;> rfl
    have hne2 : (sgone s x != 0) = true := by rw [bne, hne]; rfl
    rw [hsg] at HGET
    generalize sgone s x = sg at HR HGET hne hne2
    clear hk hsg h hok hgok hV hZ
    go_enter Try.func15, Try.ntmps15
    go_wp2_with fail
    refine HGET.out.mono ?_
    rintro e w1 ⟨rfl, hb1⟩
    have HB1 := Lib.hid hb1
    clear hb1 HGET
    have hbz := Blk.new w1 Z 44
    have TH3 := hbz.there 0 27 (by rw [HZL.out]; omega)
    obtain ⟨W4, hW4⟩ : ∃ W4, W4 = (w1.alloc (.cells Z.toArray 44)).setCells w1.heap.size 0 V := ⟨_, rfl⟩
    have HB4 := Lib.hid (show Blk W4 w1.heap.size V by rw [hW4]; exact hbz.whole (by rw [HZL.out, HVL.out]))
    have hb14 : Below w1.heap.size w1 W4 := by rw [hW4]; exact below_sets (Nat.le_refl _) _ _ ((Below.refl w1.heap.size w1).alloc (Nat.le_refl _) _)
    have HB4W := Lib.hid (HB1.out.trans (hb14.mono HB1.out.size))
    have HS4 := Lib.hid (HH.out.later HB4W.out)
    have HW4 := Lib.hid hW4
    rw [HZZ.out] at TH3
    clear hW4 hbz hb14
    go_wp2_with (first
      | (refine wpList_store_mid rfl 44 (.tmp 7) (.tmp 13) rfl w1.heap.size 0 V.toArray rfl rfl (by simpa [HVL.out] using TH3) (by simpa [HVL.out] using info_card) (all_oneCell_toArray HV1.out) ?_
         rw [← HZZ.out, ← HW4.out]
         clear TH3)
      | fail)
    go_ret
    exact ⟨by rw [HR.out]; rfl, r, by rw [HR.out]; exact HS4.out, TurnS.of_below HB4W.out _ _ _, RowS.refl _ _⟩
  | some y =>
    have hsg : sget s x = (y, 0) := by unfold sget; rw [hk]
    rw [hsg] at HGET hV hgok
    have HAF := Lib.hid (fun W (hW : Below w.heap.size w W) => after_any L g b r N s W (h.later hW) q (by omega))
    cases haf : safter s q with
    | false =>
      have HR : Hid (sdrop s x q = (s, 1)) := Lib.hid (by unfold sdrop; rw [hk]; simp only; rw [if_pos haf])
      rw [haf] at HAF
      clear hk hsg h hok hgok hV hZ haf
      go_enter Try.func15, Try.ntmps15
      go_wp2_with fail
      refine HGET.out.mono ?_
      rintro e w1 ⟨rfl, hb1⟩
      have HB1 := Lib.hid hb1
      clear hb1 HGET
      have hbz := Blk.new w1 Z 44
      have TH3 := hbz.there 0 27 (by rw [HZL.out]; omega)
      obtain ⟨W4, hW4⟩ : ∃ W4, W4 = (w1.alloc (.cells Z.toArray 44)).setCells w1.heap.size 0 V := ⟨_, rfl⟩
      have HB4 := Lib.hid (show Blk W4 w1.heap.size V by rw [hW4]; exact hbz.whole (by rw [HZL.out, HVL.out]))
      have hb14 : Below w1.heap.size w1 W4 := by rw [hW4]; exact below_sets (Nat.le_refl _) _ _ ((Below.refl w1.heap.size w1).alloc (Nat.le_refl _) _)
      have HB4W := Lib.hid (HB1.out.trans (hb14.mono HB1.out.size))
      have HS4 := Lib.hid (HH.out.later HB4W.out)
      have HW4 := Lib.hid hW4
      rw [HZZ.out] at TH3
      clear hW4 hbz hb14
      go_wp2_with (first
        | (refine wpList_store_mid rfl 44 (.tmp 7) (.tmp 13) rfl w1.heap.size 0 V.toArray rfl rfl (by simpa [HVL.out] using TH3) (by simpa [HVL.out] using info_card) (all_oneCell_toArray HV1.out) ?_
           rw [← HZZ.out, ← HW4.out]
           clear TH3)
        | fail)
      refine (HAF.out W4 HB4W.out).mono ?_
      rintro e w5 ⟨rfl, rfl⟩
      clear HAF
      go_wp2_with fail
      go_ret
      exact ⟨by rw [HR.out]; rfl, r, by rw [HR.out]; exact HS4.out, TurnS.of_below HB4W.out _ _ _, RowS.refl _ _⟩
    | true =>
      rw [haf] at HAF
      obtain ⟨cs', hcs⟩ : ∃ cs', cs' = s.cs.take (cpos s.cs x) ++ s.cs.drop (cpos s.cs x + 1) := ⟨_, rfl⟩
      have hkv : toKV cs' = kdel (toKV s.cs) x := by rw [hcs]; exact drop_del hok.rise hk
      have HR : Hid (sdrop s x q = (⟨s.nx, cs', slast (s.dd ++ [⟨x, y.2.1, q⟩])⟩, 0)) := Lib.hid (by unfold sdrop; rw [hk]; simp only; rw [if_neg (by rw [haf]; simp), hcs])
      have HKD : Hid (mdel (vmap cdv (toKV s.cs)) x = vmap cdv (toKV cs')) := Lib.hid (by rw [hkv]; exact vmap_del cdv _ _)
      have HCI : Hid (∀ W gg, Blk W gg V → W.cell? ⟨gg, 1, none⟩ = some (.int .i64 y.2.1)) := Lib.hid (fun W gg hB => hB.cell (j := 1) (by rw [hV]; rfl))
      have HWF := Lib.hid hx
      obtain ⟨d, hd⟩ : ∃ d : Dd, d = ⟨x, y.2.1, q⟩ := ⟨_, rfl⟩
      have HDA : Hid ((.agg #[.int .i64 x, .int .i64 y.2.1, .int .i64 q] : Value) = .agg #[.int .i64 d.id, .int .i64 d.vr, .int .i64 d.sq]) := Lib.hid (by rw [hd])
      rw [← hd] at HR
      generalize y.2.1 = yv at HCI HDA
      clear hk hsg h hok hgok hV hZ haf hcs hkv hd
      go_enter Try.func15, Try.ntmps15
      go_wp2_with fail
      refine HGET.out.mono ?_
      rintro e w1 ⟨rfl, hb1⟩
      have HB1 := Lib.hid hb1
      clear hb1 HGET
      have hbz := Blk.new w1 Z 44
      have TH3 := hbz.there 0 27 (by rw [HZL.out]; omega)
      obtain ⟨W4, hW4⟩ : ∃ W4, W4 = (w1.alloc (.cells Z.toArray 44)).setCells w1.heap.size 0 V := ⟨_, rfl⟩
      have HB4 := Lib.hid (show Blk W4 w1.heap.size V by rw [hW4]; exact hbz.whole (by rw [HZL.out, HVL.out]))
      have hb14 : Below w1.heap.size w1 W4 := by rw [hW4]; exact below_sets (Nat.le_refl _) _ _ ((Below.refl w1.heap.size w1).alloc (Nat.le_refl _) _)
      have HB4W := Lib.hid (HB1.out.trans (hb14.mono HB1.out.size))
      have HS4 := Lib.hid (HH.out.later HB4W.out)
      have HW4 := Lib.hid hW4
      rw [HZZ.out] at TH3
      clear hW4 hbz hb14
      go_wp2_with (first
        | (refine wpList_store_mid rfl 44 (.tmp 7) (.tmp 13) rfl w1.heap.size 0 V.toArray rfl rfl (by simpa [HVL.out] using TH3) (by simpa [HVL.out] using info_card) (all_oneCell_toArray HV1.out) ?_
           rw [← HZZ.out, ← HW4.out]
           clear TH3)
        | fail)
      refine (HAF.out W4 HB4W.out).mono ?_
      rintro e w5 ⟨rfl, rfl⟩
      clear HAF
      obtain ⟨w5, hrd, hI5, hmt5⟩ := HS4.out.map.drop Try.underlying3 Try.underlying61 HWF.out 0
      rw [HKD.out] at hI5
      have HS5 := Lib.hid (HS4.out.putMap hmt5.grown hI5)
      have HB5 := Lib.hid (HB4.out.kept hmt5.grown (by have h2 := (HH.out.lt).2; have h3 := HB1.out.size; simp only [ne_eq, Option.some.injEq]; omega))
      have HT5 := Lib.hid ((TurnS.of_below HB4W.out g b r).trans (TurnS.of_map hmt5.grown g r) (RowS.refl _ _))
      have HZ5 := Lib.hid (show w1.heap.size < w5.heap.size from HB5.out.lt)
      have HGV := Lib.hid (show g ≠ w1.heap.size ∧ r ≠ some w1.heap.size from by
        have h2 := HH.out.lt
        have h3 := HB1.out.size
        exact ⟨by omega, fun e => by have := (HH.out.row _ e).2; omega⟩)
      obtain ⟨_, _, k0, k1, kx⟩ := HS4.out.cells
      clear kx hI5 hmt5
      go_wp2_with (first
        | (refine wpList_execx (by rfl) (.tuple #[]) (exec_delS (.tmp 29) (.tmp 30) rfl x rfl rfl hrd) ?_
           simp only [Act.put, List.setIfInBounds_toArray, List.set_cons_zero, List.set_cons_succ])
        | fail)
      clear hrd k0 k1 HS4 HB4 HB4W
      obtain ⟨A, c, _, _, c2, _, hrow, hre, _⟩ := HS5.out.cells
      obtain ⟨wd, hwd⟩ : ∃ wd, wd = w5.drew := ⟨_, rfl⟩
      have hld : Below w5.heap.size w5 wd := by rw [hwd]; exact (Below.refl w5.heap.size w5).drew
      have HWS : Hid (wd.heap.size = w5.heap.size) := Lib.hid (by rw [hwd]; rfl)
      obtain ⟨X, hX⟩ : ∃ X, X = wd.alloc (.cells (ddc d).toArray 68) := ⟨_, rfl⟩
      have hlx : Below w5.heap.size w5 X := by rw [hX]; exact hld.trans ((Below.refl wd.heap.size wd).alloc (Nat.le_refl _) _ |>.mono hld.size)
      have HBX := Lib.hid (show Blk X w5.heap.size (ddc d) by rw [hX, ← HWS.out]; exact Blk.new wd (ddc d) _)
      have HSX := Lib.hid (HS5.out.later hlx)
      have HRX : Hid (X.ownsRow L 68 3 (.slice A s.dd.length c) s.dd.length (rws ddc s.dd)) := Lib.hid (row_later hrow hlx)
      have HB5X := Lib.hid (HB5.out.later hlx)
      have HT5X := Lib.hid (HT5.out.trans (TurnS.of_below hlx g b r) (RowS.refl _ _))
      have HLX := Lib.hid (show L ≤ X.heap.size from Nat.le_trans hL (HT5X.out.size))
      have c2d : wd.cell? ⟨g, 2, none⟩ = some (.slice A s.dd.length c) := by obtain ⟨_, _, _, _, k2, _⟩ := (HS5.out.later hld).cells; exact ((HS5.out.later hld).at_.elim (fun _ h => by exact (hld.cell (p := ⟨g, 2, none⟩) HS5.out.lt.1).trans c2))
      have c2X : X.cell? ⟨g, 2, none⟩ = some (.slice A s.dd.length c) := (hlx.cell (p := ⟨g, 2, none⟩) HS5.out.lt.1).trans c2
      have HRE := Lib.hid hre
      have HC2 := Lib.hid c2X
      have HSee : Hid (Sees X X.heap.size (some ⟨w5.heap.size, 0, none⟩) (ddc d)) := Lib.hid (fun _ => ⟨w5.heap.size, 0, rfl, HBX.out.lt, fun j hj => by rw [Nat.zero_add]; exact HBX.out.cell (List.getElem?_eq_getElem hj)⟩)
      have HXW := Lib.hid hX
      have HBS : Hid ((Instr.buildSlice 27 1 #[(0, .agg #[.int .i64 x, .int .i64 yv, .int .i64 q])]).run Try.prog wd = .ok (.slice (some ⟨w5.heap.size, 0, none⟩) 1 1) X) := Lib.hid (by
        have h2 := run_dd1 d wd
        rw [← HDA.out, HWS.out, ← hX] at h2
        exact h2)
      have hS : wd.cell? ⟨w1.heap.size, 1, none⟩ = some (.int .i64 yv) := HCI.out _ _ (HB5.out.later hld)
      have HSXS : Hid (X.cell? ⟨w1.heap.size, 1, none⟩ = some (.int .i64 yv)) := Lib.hid (HCI.out _ _ HB5X.out)
      generalize hn : s.dd.length = n at c2d c2X HRX HC2 hdd HRE
      have HN := Lib.hid hn
      clear hrow hre c2 hX hlx hn HB5 HS5 HT5
      refine wp_region_held (S := fun wx => wx.cell? ⟨w1.heap.size, 1, none⟩ = some (.int .i64 yv)) (by kernel_rfl) ?_
      show Go.wpAnyH Try.prog Region.Mode.any _ _ _ _ _ _ w5.drew
      rw [← hwd]
      clear hwd hld
      refine takeH (i := 0) (oi := _) (v := (.pointer (some ⟨g, 0, none⟩))) (fuel := 14) (some 31) rfl rfl (by kernel_rfl) (by kernel_rfl) (by kernel_rfl) (fun _ _ _ h => h) (.inl ⟨by rfl, fun wx hS => by simp [go_sem]⟩) hS ?_
      simp only [Act.put, List.setIfInBounds_toArray, List.set_cons_zero, List.set_cons_succ]
      refine takeH (i := 1) (oi := _) (v := (.pointer (some ⟨g, 0, none⟩))) (fuel := 13) (some 32) rfl rfl (by kernel_rfl) (by kernel_rfl) (by kernel_rfl) (fun _ _ _ h => h) (.inl ⟨by rfl, fun wx hS => by simp [go_sem]⟩) hS ?_
      simp only [Act.put, List.setIfInBounds_toArray, List.set_cons_zero, List.set_cons_succ]
      refine takeH (i := 2) (oi := _) (v := (.pointer (some ⟨g, 0, none⟩))) (fuel := 12) (some 33) rfl rfl (by kernel_rfl) (by kernel_rfl) (by kernel_rfl) (fun _ _ _ h => h) (.inl ⟨by rfl, fun wx hS => by simp [go_sem]⟩) hS ?_
      simp only [Act.put, List.setIfInBounds_toArray, List.set_cons_zero, List.set_cons_succ]
      refine takeH (i := 3) (oi := _) (v := (.pointer (some ⟨g, 2, none⟩))) (fuel := 11) (some 34) rfl rfl (by kernel_rfl) (by kernel_rfl) (by kernel_rfl) (fun _ _ _ h => h) (.inl ⟨by rfl, fun wx hS => by simp [go_sem]⟩) hS ?_
      simp only [Act.put, List.setIfInBounds_toArray, List.set_cons_zero, List.set_cons_succ]
      refine takeH (i := 5) (oi := _) (v := (.int .i64 x)) (fuel := 10) (some 36) rfl rfl (by kernel_rfl) (by kernel_rfl) (by kernel_rfl) (fun _ _ _ h => h) (.inl ⟨by rfl, fun wx hS => by simp [go_sem]⟩) hS ?_
      simp only [Act.put, List.setIfInBounds_toArray, List.set_cons_zero, List.set_cons_succ]
      refine takeH (i := 6) (oi := _) (v := (.pointer (some ⟨w1.heap.size, 1, none⟩))) (fuel := 9) (some 37) rfl rfl (by kernel_rfl) (by kernel_rfl) (by kernel_rfl) (fun _ _ _ h => h) (.inl ⟨by rfl, fun wx hS => by simp [go_sem]⟩) hS ?_
      simp only [Act.put, List.setIfInBounds_toArray, List.set_cons_zero, List.set_cons_succ]
      refine takeH (i := 7) (oi := _) (v := (.int .i64 yv)) (fuel := 8) (some 38) rfl rfl (by kernel_rfl) (by kernel_rfl) (by kernel_rfl) (fun _ _ _ h => h) (.inl ⟨by rfl, fun wx hS => by have hS2 : wx.cell? ⟨w1.heap.size, 1, none⟩ = some (.int .i64 yv) := hS; simp [go_sem, hS2]⟩) hS ?_
      simp only [Act.put, List.setIfInBounds_toArray, List.set_cons_zero, List.set_cons_succ]
      refine takeH (i := 8) (oi := _) (v := (.int .i64 q)) (fuel := 7) (some 39) rfl rfl (by kernel_rfl) (by kernel_rfl) (by kernel_rfl) (fun _ _ _ h => h) (.inl ⟨by rfl, fun wx hS => by simp [go_sem]⟩) hS ?_
      simp only [Act.put, List.setIfInBounds_toArray, List.set_cons_zero, List.set_cons_succ]
      refine takeH (i := 9) (oi := _) (v := (.agg #[.int .i64 x, .int .i64 yv, .int .i64 q])) (fuel := 6) (some 40) rfl rfl (by kernel_rfl) (by kernel_rfl) (by kernel_rfl) (fun _ _ _ h => h) (.inl ⟨by rfl, fun wx hS => by simp [go_sem]⟩) hS ?_
      simp only [Act.put, List.setIfInBounds_toArray, List.set_cons_zero, List.set_cons_succ]
      refine wpAnyH_all (fuel := 5) (rs := [4, 10]) (by kernel_rfl) (by simp) (fun i hi => ?_)
      simp only [List.mem_cons, List.not_mem_nil, or_false] at hi
      rcases hi with rfl | rfl
      · refine runH (some 35) _ rfl rfl (by rfl) (.slice A n c) (by simp [go_sem, c2d]) ⟨hS, ?_⟩
        simp only [Act.put, List.setIfInBounds_toArray, List.set_cons_zero, List.set_cons_succ]
        refine allH [10] 10 (fuel := 4) (by kernel_rfl) ?_
        refine runH (some 41) _ rfl rfl (by rfl) (.slice (some ⟨w5.heap.size, 0, none⟩) 1 1) (exec_litS 27 (.tmp 40) rfl (.agg #[.int .i64 x, .int .i64 yv, .int .i64 q]) _ rfl HBS.out) ⟨HSXS.out, ?_⟩
        simp only [Act.put, List.setIfInBounds_toArray, List.set_cons_zero, List.set_cons_succ]
        have hS := HSXS.out
        refine allH [11] 11 (fuel := 3) (by kernel_rfl) ?_
        refine appH (some 42) _ rfl rfl (by rfl) (.tmp 35) (.tmp 41) 27 rfl L 68 i1 _ 3 24 Try.underlying27 ji jz0 jz1 jz2 (by rfl) (by decide) (.slice A n c) n (rws ddc s.dd) (by rfl) HRX.out X.heap.size (some ⟨w5.heap.size, 0, none⟩) 1 (ddc d) 1 (by rfl) (by rfl) HSee.out (ddc_one d) (by unfold maxLen; omega) (by omega) HLX.out ?_
        intro A3 c3 w6 hr6 hb6 hg6 hat6
        have e6 : rws ddc s.dd ++ ddc d = rws ddc (s.dd ++ [d]) := by rw [rws_append, rws_one]
        rw [e6] at hr6
        rw [← HRE.out] at hg6 hat6
        have hat := rowS_of hat6
        obtain ⟨H7, T7, z7, f7⟩ := HSX.out.newRow hg6 hr6 (by simp [HN.out]) hat
        rw [HC2.out] at z7
        have hS6 : w6.cell? ⟨w1.heap.size, 1, none⟩ = some (.int .i64 yv) := HCI.out _ _ (HB5X.out.kept hg6 HGV.out.2)
        have hS7 : (w6.setCell ⟨g, 2, none⟩ (.slice A3 (n + 1) c3)).cell? ⟨w1.heap.size, 1, none⟩ = some (.int .i64 yv) := HCI.out _ _ ((HB5X.out.kept hg6 HGV.out.2).setOther 2 _ HGV.out.1)
        clear hr6 hb6 hg6 hat6 hS e6 c2d c2X
        have hS := hS6
        refine ⟨hS, ?_⟩
        simp only [Act.put, List.setIfInBounds_toArray, List.set_cons_zero, List.set_cons_succ]
        refine takeH (i := 12) (oi := _) (v := (.pointer (some ⟨g, 0, none⟩))) (fuel := 2) (some 43) rfl rfl (by kernel_rfl) (by kernel_rfl) (by kernel_rfl) (fun _ _ _ h => h) (.inl ⟨by rfl, fun wx hS => by simp [go_sem]⟩) hS ?_
        simp only [Act.put, List.setIfInBounds_toArray, List.set_cons_zero, List.set_cons_succ]
        refine takeH (i := 13) (oi := _) (v := (.pointer (some ⟨g, 2, none⟩))) (fuel := 1) (some 44) rfl rfl (by kernel_rfl) (by kernel_rfl) (by kernel_rfl) (fun _ _ _ h => h) (.inl ⟨by rfl, fun wx hS => by simp [go_sem]⟩) hS ?_
        simp only [Act.put, List.setIfInBounds_toArray, List.set_cons_zero, List.set_cons_succ]
        refine allH [14] 14 (fuel := 0) (by kernel_rfl) ?_
        refine store1H _ rfl rfl (by rfl) 27 (.tmp 44) (.tmp 42) rfl g 2 _ (.slice A3 (n + 1) c3) rfl rfl (fun w => by kernel_rfl) (fun cs => by simp) rfl z7 f7 ⟨hS7, ?_⟩
        refine wpAnyH_done (by kernel_rfl) ?_ 0
        have H7 := Lib.hid H7
        have T7 := Lib.hid (HT5X.out.trans T7 (RowS.refl _ _))
        have R7 := Lib.hid (show RowS w r (Value.slice A3 (n + 1) c3).ownBlock from (RowS.refl w r).trans hat HT5X.out.size)
        clear hat z7 f7 hS hS6 hS7 HSX HRX HB5X HT5X HSee HSXS HBX
        obtain ⟨w7, hw7⟩ : ∃ w7, w7 = w6.setCell ⟨g, 2, none⟩ (.slice A3 (n + 1) c3) := ⟨_, rfl⟩
        rw [← hw7] at H7 T7 ⊢
        obtain ⟨A7, c7, _, _, c2, _, hrow, hre, _⟩ := H7.out.cells
        have hl1 : (s.dd ++ [d]).length = n + 1 := by simp [HN.out]
        by_cases hbig : 40 < n + 1
        · have d1 : decide ((40 : Int) < (n : Int) + 1) = true := decide_eq_true (by omega)
          have d1' : decide (40 < n + 1) = true := decide_eq_true hbig
          have HL : Hid (slast (s.dd ++ [d]) = (s.dd ++ [d]).drop 1) := Lib.hid (by unfold slast; rw [if_pos (by rw [hl1]; exact hbig)])
          have hdl := deld_grow w7 L (n + 1) c7 0 A7 (s.dd ++ [d]) hl1 (by omega) (by omega) (by rw [← hl1]; exact hrow)
          have hdl : Calls Try.prog 37 #[.slice A7 (n + 1) c7, .int .i64 0, .int .i64 1] w7 fun e w' => e = .returned (.slice A7 n c7) ∧ w'.ownsRow L 68 3 (.slice A7 n c7) n (rws ddc ((s.dd ++ [d]).drop 1)) ∧ w7.grownBy w' (Value.slice A7 (n + 1) c7).ownBlock := by
            rw [List.take_zero, List.nil_append] at hdl
            exact hdl
          have HDL := Lib.hid hdl
          have HL1 := Lib.hid hl1
          have HRE7 := Lib.hid hre
          simp only [hl1] at c2
          clear hdl hbig hrow hre hl1 hw7
          go_wp2_with fail
          refine HDL.out.mono ?_
          rintro e w8 ⟨rfl, hr8, hg8⟩
          have hg8' : w7.grownBy w8 (Value.slice A3 (n + 1) c3).ownBlock := by rw [HRE7.out, HL1.out]; exact hg8
          have hat8 : RowS w7 (Value.slice A3 (n + 1) c3).ownBlock (Value.slice A7 n c7).ownBlock := by
            intro k hk
            refine .inl ?_
            rw [HRE7.out, HL1.out]
            cases A7 with
            | none => cases hk
            | some ad => exact hk
          obtain ⟨H9, T9, z9, f9⟩ := H7.out.newRow hg8' hr8 (by rw [List.length_drop, HL1.out, Nat.add_sub_cancel]) hat8
          rw [c2] at z9
          have H9 := Lib.hid H9
          have T9 := Lib.hid (T7.out.trans T9 R7.out)
          have R9 := Lib.hid (R7.out.trans hat8 T7.out.size)
          obtain ⟨W9, hW9⟩ : ∃ W9, W9 = w8.setCell ⟨g, 2, none⟩ (.slice A7 n c7) := ⟨_, rfl⟩
          rw [← hW9] at H9 T9
          have HW9 := Lib.hid hW9
          clear hr8 hg8 hg8' hat8 HDL H7 T7 R7 hW9 c2
          go_wp2_with fail
          go_ret
          rw [← HW9.out]
          exact ⟨by rw [HR.out]; rfl, _, by rw [HR.out, HL.out]; exact H9.out, T9.out, R9.out⟩
        · have d1 : decide ((40 : Int) < (n : Int) + 1) = false := decide_eq_false (by omega)
          have d1' : decide (40 < n + 1) = false := decide_eq_false hbig
          have HL : Hid (slast (s.dd ++ [d]) = s.dd ++ [d]) := Lib.hid (by unfold slast; rw [if_neg (by rw [hl1]; exact hbig)])
          simp only [hl1] at c2
          clear hbig hrow hre hl1 hw7
          go_wp2_with fail
          go_ret
          exact ⟨by rw [HR.out]; rfl, _, by rw [HR.out, HL.out]; exact H7.out, T7.out, R7.out⟩
      · refine runH (some 41) _ rfl rfl (by rfl) (.slice (some ⟨w5.heap.size, 0, none⟩) 1 1) (exec_litS 27 (.tmp 40) rfl (.agg #[.int .i64 x, .int .i64 yv, .int .i64 q]) _ rfl HBS.out) ⟨HSXS.out, ?_⟩
        simp only [Act.put, List.setIfInBounds_toArray, List.set_cons_zero, List.set_cons_succ]
        have hS := HSXS.out
        refine allH [4] 4 (fuel := 4) (by kernel_rfl) ?_
        refine runH (some 35) _ rfl rfl (by rfl) (.slice A n c) (by simp [go_sem, c2X]) ⟨hS, ?_⟩
        simp only [Act.put, List.setIfInBounds_toArray, List.set_cons_zero, List.set_cons_succ]
        refine allH [11] 11 (fuel := 3) (by kernel_rfl) ?_
        refine appH (some 42) _ rfl rfl (by rfl) (.tmp 35) (.tmp 41) 27 rfl L 68 i1 _ 3 24 Try.underlying27 ji jz0 jz1 jz2 (by rfl) (by decide) (.slice A n c) n (rws ddc s.dd) (by rfl) HRX.out X.heap.size (some ⟨w5.heap.size, 0, none⟩) 1 (ddc d) 1 (by rfl) (by rfl) HSee.out (ddc_one d) (by unfold maxLen; omega) (by omega) HLX.out ?_
        intro A3 c3 w6 hr6 hb6 hg6 hat6
        have e6 : rws ddc s.dd ++ ddc d = rws ddc (s.dd ++ [d]) := by rw [rws_append, rws_one]
        rw [e6] at hr6
        rw [← HRE.out] at hg6 hat6
        have hat := rowS_of hat6
        obtain ⟨H7, T7, z7, f7⟩ := HSX.out.newRow hg6 hr6 (by simp [HN.out]) hat
        rw [HC2.out] at z7
        have hS6 : w6.cell? ⟨w1.heap.size, 1, none⟩ = some (.int .i64 yv) := HCI.out _ _ (HB5X.out.kept hg6 HGV.out.2)
        have hS7 : (w6.setCell ⟨g, 2, none⟩ (.slice A3 (n + 1) c3)).cell? ⟨w1.heap.size, 1, none⟩ = some (.int .i64 yv) := HCI.out _ _ ((HB5X.out.kept hg6 HGV.out.2).setOther 2 _ HGV.out.1)
        clear hr6 hb6 hg6 hat6 hS e6 c2d c2X
        have hS := hS6
        refine ⟨hS, ?_⟩
        simp only [Act.put, List.setIfInBounds_toArray, List.set_cons_zero, List.set_cons_succ]
        refine takeH (i := 12) (oi := _) (v := (.pointer (some ⟨g, 0, none⟩))) (fuel := 2) (some 43) rfl rfl (by kernel_rfl) (by kernel_rfl) (by kernel_rfl) (fun _ _ _ h => h) (.inl ⟨by rfl, fun wx hS => by simp [go_sem]⟩) hS ?_
        simp only [Act.put, List.setIfInBounds_toArray, List.set_cons_zero, List.set_cons_succ]
        refine takeH (i := 13) (oi := _) (v := (.pointer (some ⟨g, 2, none⟩))) (fuel := 1) (some 44) rfl rfl (by kernel_rfl) (by kernel_rfl) (by kernel_rfl) (fun _ _ _ h => h) (.inl ⟨by rfl, fun wx hS => by simp [go_sem]⟩) hS ?_
        simp only [Act.put, List.setIfInBounds_toArray, List.set_cons_zero, List.set_cons_succ]
        refine allH [14] 14 (fuel := 0) (by kernel_rfl) ?_
        refine store1H _ rfl rfl (by rfl) 27 (.tmp 44) (.tmp 42) rfl g 2 _ (.slice A3 (n + 1) c3) rfl rfl (fun w => by kernel_rfl) (fun cs => by simp) rfl z7 f7 ⟨hS7, ?_⟩
        refine wpAnyH_done (by kernel_rfl) ?_ 0
        have H7 := Lib.hid H7
        have T7 := Lib.hid (HT5X.out.trans T7 (RowS.refl _ _))
        have R7 := Lib.hid (show RowS w r (Value.slice A3 (n + 1) c3).ownBlock from (RowS.refl w r).trans hat HT5X.out.size)
        clear hat z7 f7 hS hS6 hS7 HSX HRX HB5X HT5X HSee HSXS HBX
        obtain ⟨w7, hw7⟩ : ∃ w7, w7 = w6.setCell ⟨g, 2, none⟩ (.slice A3 (n + 1) c3) := ⟨_, rfl⟩
        rw [← hw7] at H7 T7 ⊢
        obtain ⟨A7, c7, _, _, c2, _, hrow, hre, _⟩ := H7.out.cells
        have hl1 : (s.dd ++ [d]).length = n + 1 := by simp [HN.out]
        by_cases hbig : 40 < n + 1
        · have d1 : decide ((40 : Int) < (n : Int) + 1) = true := decide_eq_true (by omega)
          have d1' : decide (40 < n + 1) = true := decide_eq_true hbig
          have HL : Hid (slast (s.dd ++ [d]) = (s.dd ++ [d]).drop 1) := Lib.hid (by unfold slast; rw [if_pos (by rw [hl1]; exact hbig)])
          have hdl := deld_grow w7 L (n + 1) c7 0 A7 (s.dd ++ [d]) hl1 (by omega) (by omega) (by rw [← hl1]; exact hrow)
          have hdl : Calls Try.prog 37 #[.slice A7 (n + 1) c7, .int .i64 0, .int .i64 1] w7 fun e w' => e = .returned (.slice A7 n c7) ∧ w'.ownsRow L 68 3 (.slice A7 n c7) n (rws ddc ((s.dd ++ [d]).drop 1)) ∧ w7.grownBy w' (Value.slice A7 (n + 1) c7).ownBlock := by
            rw [List.take_zero, List.nil_append] at hdl
            exact hdl
          have HDL := Lib.hid hdl
          have HL1 := Lib.hid hl1
          have HRE7 := Lib.hid hre
          simp only [hl1] at c2
          clear hdl hbig hrow hre hl1 hw7
          go_wp2_with fail
          refine HDL.out.mono ?_
          rintro e w8 ⟨rfl, hr8, hg8⟩
          have hg8' : w7.grownBy w8 (Value.slice A3 (n + 1) c3).ownBlock := by rw [HRE7.out, HL1.out]; exact hg8
          have hat8 : RowS w7 (Value.slice A3 (n + 1) c3).ownBlock (Value.slice A7 n c7).ownBlock := by
            intro k hk
            refine .inl ?_
            rw [HRE7.out, HL1.out]
            cases A7 with
            | none => cases hk
            | some ad => exact hk
          obtain ⟨H9, T9, z9, f9⟩ := H7.out.newRow hg8' hr8 (by rw [List.length_drop, HL1.out, Nat.add_sub_cancel]) hat8
          rw [c2] at z9
          have H9 := Lib.hid H9
          have T9 := Lib.hid (T7.out.trans T9 R7.out)
          have R9 := Lib.hid (R7.out.trans hat8 T7.out.size)
          obtain ⟨W9, hW9⟩ : ∃ W9, W9 = w8.setCell ⟨g, 2, none⟩ (.slice A7 n c7) := ⟨_, rfl⟩
          rw [← hW9] at H9 T9
          have HW9 := Lib.hid hW9
          clear hr8 hg8 hg8' hat8 HDL H7 T7 R7 hW9 c2
          go_wp2_with fail
          go_ret
          rw [← HW9.out]
          exact ⟨by rw [HR.out]; rfl, _, by rw [HR.out, HL.out]; exact H9.out, T9.out, R9.out⟩
        · have d1 : decide ((40 : Int) < (n : Int) + 1) = false := decide_eq_false (by omega)
          have d1' : decide (40 < n + 1) = false := decide_eq_false hbig
          have HL : Hid (slast (s.dd ++ [d]) = s.dd ++ [d]) := Lib.hid (by unfold slast; rw [if_neg (by rw [hl1]; exact hbig)])
          simp only [hl1] at c2
          clear hbig hrow hre hl1 hw7
          go_wp2_with fail
          go_ret
          exact ⟨by rw [HR.out]; rfl, _, by rw [HR.out, HL.out]; exact H7.out, T7.out, R7.out⟩
end Go.Proofs.Ytgkpbkedaddekaa

/- Shelves: slices.DeleteFunc of the dead; the program's Trim. -/
namespace Go.Proofs.Ytgkpbkedaddekaa
set_option linter.unusedVariables false
set_option linter.unusedSimpArgs false
open Go Go.RowKit BitM

theorem run_clearK {P : Program} (w : World) (t e ty : TypeId) (z : Value) (cs : List Value) (n : Nat) (hn : 0 < n) (ht : P.underlying t = some (.slice e)) (hv : ∀ w, (zeroValue e).run P w = .ok z w) (hzc : (Builtin.zeroCells z.cells n).toList = cs) (h1 : ∀ v ∈ cs, v.oneCell' = true) (b o c : Nat)
    (hc : ∀ j, j < cs.length → (w.cell? ⟨b, o + j, none⟩).isSome = true) (hf : ∀ j, j < cs.length → w.frozen? ⟨b, o + j, none⟩ = false) :
    (Builtin.clear_ #[t] ty #[.slice (some ⟨b, o, none⟩) n c]).run P w = .ok (.tuple #[]) (w.setCells b o cs) := by
  have hst := run_storeCells_cells (P := P) b o cs 0 w (by simpa using hc) (by simpa using hf) h1
  simp only [Nat.add_zero] at hst
  obtain ⟨m, rfl⟩ : ∃ m, n = m + 1 := ⟨n - 1, by omega⟩
  simp [Builtin.clear_, run_underlying ht, hv, hzc, hst]
theorem wpList_clearK {P : Program} {ops : Array Oper} {rest : List Oper} {o : Oper} {a : Act} {w : World} {Q : Exit → Act → World → Prop} (hgd : o.guard = none) (s : Operand) (t e : TypeId) (z : Value) (cs : List Value) (n : Nat) (hn : 0 < n)
    (ho : o.op = .call { callee := .builtin .clear, args := #[s], argTypes := #[t] }) (ht : P.underlying t = some (.slice e)) (hv : ∀ w, (zeroValue e).run P w = .ok z w) (hzc : (Builtin.zeroCells z.cells n).toList = cs) (h1 : ∀ v ∈ cs, v.oneCell' = true) (b k c : Nat) (hs : a.eval s = .slice (some ⟨b, k, none⟩) n c)
    (hc : ∀ j, j < cs.length → (w.cell? ⟨b, k + j, none⟩).isSome = true) (hf : ∀ j, j < cs.length → w.frozen? ⟨b, k + j, none⟩ = false)
    (h : wpList P ops Q rest (a.put o.dst (.tuple #[])) (w.setCells b k cs)) : wpList P ops Q (o :: rest) a w :=
  wpList_plain hgd fun _ hK => by
    have hr := run_clearK (P := P) w t e o.type z cs n hn ht hv hzc h1 b k c hc hf
    unfold Oper.wp
    simp [execOp, ho, resolve, invoke, builtin, hs, hr, Result.andThen]
    exact hK _ _ h
def zcs (n : Nat) : List Value := (Builtin.zeroCells (Value.agg #[.int .i64 0, .int .i64 0, .int .i64 0]).cells n).toList
theorem zcs_len (n : Nat) : (zcs n).length = n * 3 := by
  unfold zcs Builtin.zeroCells
  simp [Value.cells]
theorem zcs_one (n : Nat) : ∀ v ∈ zcs n, v.oneCell' = true := by
  intro v hv
  unfold zcs Builtin.zeroCells at hv
  simp only [Value.cells, Array.toList_map, List.mem_map] at hv
  obtain ⟨i, _, rfl⟩ := hv
  have h3 : i % 3 < 3 := Nat.mod_lt _ (by omega)
  show (#[Value.int .i64 0, .int .i64 0, .int .i64 0][i % 3]!).oneCell' = true
  rcases (show i % 3 = 0 ∨ i % 3 = 1 ∨ i % 3 = 2 by omega) with h | h | h <;> rw [h] <;> rfl
/-- The front part of a row, behind a store into its rest. -/
theorem row_front {w : World} {base g n c i sz : Nat} {e : TypeId} {xs : List Value} (h : w.ownsRow base e sz (.slice (some ⟨g, 0, none⟩) n c) n xs) (hi : i ≤ n) (cs : List Value) (hcs : i * sz + cs.length ≤ n * sz) :
    (w.setCells g (i * sz) cs).ownsRow base e sz (.slice (some ⟨g, 0, none⟩) i c) i (xs.take (i * sz)) ∧ (∀ j, j < n * sz → (w.cell? ⟨g, j, none⟩).isSome = true) ∧ ∀ j, w.frozen? ⟨g, j, none⟩ = false := by
  obtain ⟨h1, h2 | ⟨g', cap, cur, e1, e2, e3, e4, e5, e6, e7⟩⟩ := h
  · exact absurd h2.1 (by simp)
  · injection e1 with ea eb ec
    injection ea with ea
    injection ea with ea
    subst ea
    subst ec
    have hcl : cur.toList.length = c * sz := by rw [Array.length_toList]; exact e6
    have hnc : n * sz ≤ c * sz := Nat.mul_le_mul_right _ e4
    have hin : i * sz ≤ n * sz := Nat.mul_le_mul_right _ hi
    have h3 : w.heap[g]? = some (.cells cur.toList.toArray e (0, 0)) := by rw [e3]
    have h4 := heap_sets cs (i * sz) h3 (by rw [hcl]; omega)
    refine ⟨⟨by rw [List.length_take, h1]; omega, .inr ⟨g, c, _, rfl, e2, h4, by omega, e5, ?_, ?_⟩⟩, fun j hj => ?_, fun j => by simp [World.frozen?, e3]⟩
    · rw [List.size_toArray, List.length_append, List.length_append, List.length_take, List.length_drop, hcl]
      omega
    · rw [List.toList_toArray, List.append_assoc, List.take_append_of_le_length (by rw [List.length_take, hcl]; omega), List.take_take, Nat.min_self, ← e7, List.take_take, Nat.min_eq_left hin]
    · simp [World.cell?, e3]
      have : cur.size = c * sz := e6
      omega
theorem grown_below {w w' : World} {r : Option Nat} (h : Below w.heap.size w w') : w.grownBy w' r := ⟨h.os, h.tape, h.output, h.size, fun k hk _ => h.block k hk⟩
/-- What has been kept of the dead up to a place. -/
structure Kept (x : Int) (l cl : List Dd) (i j : Nat) : Prop where
  len : cl.length = l.length
  front : cl.take i = (l.take j).filter (fun d => decide (x < d.sq))
  back : cl.drop j = l.drop j
  ij : i ≤ j
theorem Kept.at_ {x : Int} {l cl : List Dd} {i j : Nat} (h : Kept x l cl i j) (hj : j < l.length) : cl[j]'(by rw [h.len]; exact hj) = l[j] := by
  have h1 : (cl.drop j)[0]? = (l.drop j)[0]? := by rw [h.back]
  rw [List.getElem?_drop, List.getElem?_drop, Nat.add_zero, List.getElem?_eq_getElem hj, List.getElem?_eq_getElem (by rw [h.len]; exact hj)] at h1
  exact Option.some.inj h1
theorem Kept.skip {x : Int} {l cl : List Dd} {i j : Nat} (h : Kept x l cl i j) (hj : j < l.length) (hx : ¬ x < (l[j]).sq) : Kept x l cl i (j + 1) where
  len := h.len
  front := by
    rw [h.front, List.take_succ_eq_append_getElem hj, List.filter_append]
    simp [hx]
  back := by
    have := h.back
    rw [← List.drop_drop, ← List.drop_drop, this]
  ij := Nat.le_succ_of_le h.ij
theorem Kept.keep {x : Int} {l cl : List Dd} {i j : Nat} (h : Kept x l cl i j) (hij : i < j) (hj : j < l.length) (hx : x < (l[j]).sq) : Kept x l (cl.set i l[j]) (i + 1) (j + 1) where
  len := by rw [List.length_set, h.len]
  front := by
    have hl := h.len
    rw [List.take_succ_eq_append_getElem (by rw [List.length_set]; omega), List.take_set_of_le (Nat.le_refl i), List.getElem_set_self, h.front, List.take_succ_eq_append_getElem hj, List.filter_append]
    simp [hx]
  back := by
    rw [List.drop_set_of_lt (by omega)]
    have := h.back
    rw [← List.drop_drop, ← List.drop_drop, this]
  ij := by omega
theorem Kept.start {x : Int} {l : List Dd} {k : Nat} (hk : k < l.length) (h : ∀ j (hj : j < k), x < (l[j]'(by omega)).sq) (hx : ¬ x < (l[k]).sq) : Kept x l l k (k + 1) where
  len := rfl
  front := by
    rw [List.take_succ_eq_append_getElem hk, List.filter_append]
    have e1 : (l.take k).filter (fun d => decide (x < d.sq)) = l.take k := List.filter_eq_self.2 (fun d hd => by
      obtain ⟨j, hj, rfl⟩ := List.getElem_of_mem hd
      rw [List.length_take] at hj
      rw [List.getElem_take]
      exact decide_eq_true (h j (by omega)))
    rw [e1]
    simp [hx]
  back := rfl
  ij := Nat.le_succ k
theorem fidx_is {x : Int} {l : List Dd} : (fidx (fun d => decide (d.sq ≤ x)) l = -1 ∧ l.filter (fun d => decide (x < d.sq)) = l) ∨ ∃ k : Nat, fidx (fun d => decide (d.sq ≤ x)) l = (k : Int) ∧ ∃ hk : k < l.length, (∀ j (hj : j < k), x < (l[j]'(by omega)).sq) ∧ ¬ x < (l[k]).sq := by
  by_cases h : l.any (fun d => decide (d.sq ≤ x)) = true
  · refine .inr ⟨l.findIdx (fun d => decide (d.sq ≤ x)), ?_, ?_⟩
    · unfold fidx; rw [if_pos h]
    · have hlt : l.findIdx (fun d => decide (d.sq ≤ x)) < l.length := List.findIdx_lt_length.2 (List.any_eq_true.1 h)
      refine ⟨hlt, fun j hj => ?_, ?_⟩
      · have h2 := List.not_of_lt_findIdx hj
        have h3 : decide ((l[j]'(by omega)).sq ≤ x) = false := by simpa using h2
        have := of_decide_eq_false h3
        omega
      · have h2 : decide ((l[l.findIdx (fun d => decide (d.sq ≤ x))]).sq ≤ x) = true := List.findIdx_getElem (w := hlt)
        have := of_decide_eq_true h2
        omega
  · refine .inl ⟨by unfold fidx; rw [if_neg h], List.filter_eq_self.2 (fun d hd => ?_)⟩
    have h2 : decide (d.sq ≤ x) ≠ true := fun e => h (List.any_eq_true.2 ⟨d, hd, e⟩)
    have h4 : ¬ d.sq ≤ x := fun e => h2 (decide_eq_true e)
    exact decide_eq_true (by omega)
set_option maxRecDepth 100000 in
set_option maxHeartbeats 6400000 in
theorem delf_any (base : Nat) (A : Option Addr) (n c : Nat) (l : List Dd) (B : Nat) (x : Int) (w : World) (hr : w.ownsRow base 68 3 (.slice A n c) n (rws ddc l)) (hn : l.length = n) (hB : w.cell? ⟨B, 0, none⟩ = some (.int .i64 x)) (hlt : B < w.heap.size) (hne : (Value.slice A n c).ownBlock ≠ some B) (hz : n ≤ 65536) :
    Calls Try.prog 30 #[.slice A n c, .func (.func 31) #[] #[.pointer (some ⟨B, 0, none⟩)]] w fun e w' => ∃ m, e = .returned (.slice A m c) ∧ (l.filter (fun d => decide (x < d.sq))).length = m ∧ w'.ownsRow base 68 3 (.slice A m c) m (rws ddc (l.filter (fun d => decide (x < d.sq)))) ∧ w.grownBy w' (Value.slice A n c).ownBlock := by
  have hu := Try.underlying68
  have hcm := row_capS hr
  have HX := Lib.hid (xlo_any A n c l B x w (SeesR.of_row hr hn hcm) hB hlt hz)
  rcases fidx_is (x := x) (l := l) with ⟨h1, h2⟩ | ⟨k, h1, hk, h2, h3⟩
  · rw [h1] at HX
    have HR := Lib.hid hr
    have HF := Lib.hid h2
    have HN := Lib.hid hn
    clear hr h1 h2 hB hlt hne hn
    go_enter Try.func30, Try.ntmps30
    go_wp2_with fail
    refine HX.out.mono ?_
    rintro e w1 ⟨rfl, hb1⟩
    have HB1 := Lib.hid hb1
    clear hb1 HX
    go_wp2_with fail
    go_ret
    exact ⟨n, rfl, by rw [HF.out, HN.out], by rw [HF.out]; exact row_later HR.out HB1.out, grown_below HB1.out⟩
  · rw [h1] at HX
    obtain ⟨q, rfl⟩ : ∃ q, A = some ⟨q, 0, none⟩ := by
      rcases hr.2 with h0 | ⟨g, cap, cur, e, _⟩
      · have := h0.2; omega
      · injection e with ea; exact ⟨g, ea⟩
    have hqB : B ≠ q := fun e => hne (by rw [e]; rfl)
    have HK0 := Lib.hid (Kept.start hk h2 h3)
    have hkn : k < n := by omega
    have HR := Lib.hid hr
    have HN := Lib.hid hn
    have HIS : Hid (∀ W (d : Dd), w.grownBy W (some q) → Calls Try.prog 31 #[.agg #[.int .i64 d.id, .int .i64 d.vr, .int .i64 d.sq], .pointer (some ⟨B, 0, none⟩)] W fun e w' => e = .returned (.bool (decide (d.sq ≤ x))) ∧ Below W.heap.size W w') := Lib.hid (fun W d hg => islo_any d B x W (hg.cell hB (by simpa using hqB)) (Nat.lt_of_lt_of_le hlt hg.size))
    have HCM := Lib.hid hcm
    clear hr h1 h2 h3 hB hlt hne hk hn
    go_enter Try.func30, Try.ntmps30
    go_wp2_with fail
    refine HX.out.mono ?_
    rintro e w1 ⟨rfl, hb1⟩
    have HR1 := Lib.hid (row_later HR.out hb1)
    have HG1 : Hid (w.grownBy w1 (some q)) := Lib.hid (grown_below hb1)
    have e1 : ((k : Int) == -1) = false := by rw [beq_eq_false_iff_ne]; omega
    clear hb1 HX HR
    go_wp2_with fail
    go_loopw [6, 5] (fun vj vi wr => ∃ (i j : Nat) (cl : List Dd), j ≤ n ∧ i < j ∧ vj = .int .i64 (j : Int) ∧ vi = .int .i64 (i : Int) ∧ Hid (Kept x l cl i j) ∧ Hid (wr.ownsRow base 68 3 (.slice (some ⟨q, 0, none⟩) n c) n (rws ddc cl)) ∧ Hid (w.grownBy wr (some q))) (fun vj _ _ => n - (iOf vj).toNat)
    case atStart => exact ⟨k, k + 1, l, by omega, by omega, by go_num, rfl, HK0, HR1, HG1⟩
    case round =>
      clear HR1 HG1 HK0 e1
      obtain ⟨i, j, cl, hj, hij, rfl, rfl, HK, HR, HG⟩ := hrel
      by_cases hlj : j < n
      · have d0 : decide ((j : Int) < (n : Int)) = true := decide_eq_true (by omega)
        have hjl : j < l.length := by rw [HN.out]; exact hlj
        have hcn : cl.length = n := by rw [HK.out.len, HN.out]
        obtain ⟨d, hd⟩ : ∃ d, d = l[j] := ⟨_, rfl⟩
        have hrg : wr.rangeAt q (j * 3) [.int .i64 d.id, .int .i64 d.vr, .int .i64 d.sq] := by
          obtain ⟨b, o, e, _, hc⟩ := dead_cells (SeesR.of_row HR.out hcn HCM.out) (by omega)
          injection e with e
          injection e with eb eo
          subst eb eo
          have := (hc wr (Below.refl _ _) j (by omega)).2.2.2
          rw [Nat.zero_add, HK.out.at_ hjl, ← hd] at this
          exact this
        have hds : ddc d = [.int .i64 d.id, .int .i64 d.vr, .int .i64 d.sq] := rfl
        have B1 := Blk.new wr [.int .i64 0, .int .i64 0, .int .i64 0] 68
        have TH1 := B1.there 0 3 (by simp)
        obtain ⟨W1, hW1⟩ : ∃ W1, W1 = (wr.alloc (.cells #[.int .i64 0, .int .i64 0, .int .i64 0] 68)).setCells wr.heap.size 0 [.int .i64 d.id, .int .i64 d.vr, .int .i64 d.sq] := ⟨_, rfl⟩
        have HB1 := Lib.hid (show Blk W1 wr.heap.size [.int .i64 d.id, .int .i64 d.vr, .int .i64 d.sq] by rw [hW1]; exact B1.whole rfl)
        have hb1 : Below wr.heap.size wr W1 := by rw [hW1]; exact below_sets (Nat.le_refl _) _ _ ((Below.refl wr.heap.size wr).alloc (Nat.le_refl _) _)
        have HBW := Lib.hid hb1
        have HG1 := Lib.hid (HG.out.trans (grown_below (r := some q) hb1))
        have HC := Lib.hid (HIS.out W1 d HG1.out)
        have HR1 := Lib.hid (row_later HR.out hb1)
        have RG1 := HB1.out.wholeC
        have HW1 := Lib.hid hW1
        have HKS := Lib.hid (fun e => HK.out.skip hjl e)
        have HKK := Lib.hid (fun e => HK.out.keep hij hjl e)
        rw [← hd] at HKS HKK
        have HST := Lib.hid (fun (W : World) (hrw : W.ownsRow base 68 3 (.slice (some ⟨q, 0, none⟩) n c) n (rws ddc cl)) => row_sets (ddc_lens cl) hrw hcn i (by omega) d rfl)
        clear B1 hW1 hb1 HIS HK hd HR
        by_cases hx : x < d.sq
        · have dq : decide (d.sq ≤ x) = false := decide_eq_false (by omega)
          have HNK := Lib.hid (HKK.out hx)
          rw [dq] at HC
          clear HKS HKK hx dq
          go_wp2_with (first
            | (refine wpList_load_mid rfl 68 (.tmp 24) rfl q (j * 3) rfl [.int .i64 d.id, .int .i64 d.vr, .int .i64 d.sq] _ hrg hu rfl (by kernel_rfl) ?_
               simp only [Act.put, List.setIfInBounds_toArray, List.set_cons_zero, List.set_cons_succ])
            | (refine wpList_store_mid rfl 68 (.tmp 7) (.tmp 25) rfl wr.heap.size 0 #[.int .i64 d.id, .int .i64 d.vr, .int .i64 d.sq] rfl rfl TH1 (by kernel_rfl) (by simp [Value.oneCell']) ?_
               rw [← HW1.out]
               clear TH1)
            | (refine wpList_load_mid rfl 68 (.tmp 7) rfl wr.heap.size 0 rfl [.int .i64 d.id, .int .i64 d.vr, .int .i64 d.sq] _ RG1 hu rfl (by kernel_rfl) ?_
               simp only [Act.put, List.setIfInBounds_toArray, List.set_cons_zero, List.set_cons_succ])
            | fail)
          refine HC.out.mono ?_
          rintro e w2 ⟨rfl, hb2⟩
          have hr2 := row_later HR1.out hb2
          obtain ⟨h5, h6, h7⟩ := HST.out w2 hr2
          have RG2 := (HB1.out.later hb2).wholeC
          have hg2 := HG1.out.trans (grown_below (r := some q) hb2)
          obtain ⟨W3, hW3⟩ : ∃ W3, W3 = w2.setCells q (i * 3) [.int .i64 d.id, .int .i64 d.vr, .int .i64 d.sq] := ⟨_, rfl⟩
          have HR3 : Hid (W3.ownsRow base 68 3 (.slice (some ⟨q, 0, none⟩) n c) n (rws ddc (cl.set i d))) := Lib.hid (by rw [hW3]; exact h5)
          have HG3 : Hid (w.grownBy W3 (some q)) := Lib.hid (by rw [hW3]; exact hg2.trans (grown_sets _ _ _ _))
          have HW3 := Lib.hid hW3
          have hin : ¬ n ≤ i := by omega
          clear hb2 HC hr2 h5 h7 hg2 hW3 hrg RG1 HR1 HB1 HST
          go_wp2_with (first
            | (refine wpList_load_mid rfl 68 (.tmp 7) rfl wr.heap.size 0 rfl [.int .i64 d.id, .int .i64 d.vr, .int .i64 d.sq] _ RG2 hu rfl (by kernel_rfl) ?_
               simp only [Act.put, List.setIfInBounds_toArray, List.set_cons_zero, List.set_cons_succ])
            | (refine wpList_store_mid rfl 68 (.tmp 33) (.tmp 32) rfl q (i * 3) #[.int .i64 d.id, .int .i64 d.vr, .int .i64 d.sq] rfl rfl h6 (by kernel_rfl) (by simp [Value.oneCell']) ?_
               rw [← HW3.out]
               clear h6)
            | fail)
          go_roundw
          case rel => exact ⟨i + 1, j + 1, cl.set i d, by omega, by omega, by go_num, by go_num, HNK, HR3, HG3⟩
          case measure => simp [iOf]; omega
        · have dq : decide (d.sq ≤ x) = true := decide_eq_true (by omega)
          have HNK := Lib.hid (HKS.out hx)
          rw [dq] at HC
          clear HKS HKK hx dq HST
          go_wp2_with (first
            | (refine wpList_load_mid rfl 68 (.tmp 24) rfl q (j * 3) rfl [.int .i64 d.id, .int .i64 d.vr, .int .i64 d.sq] _ hrg hu rfl (by kernel_rfl) ?_
               simp only [Act.put, List.setIfInBounds_toArray, List.set_cons_zero, List.set_cons_succ])
            | (refine wpList_store_mid rfl 68 (.tmp 7) (.tmp 25) rfl wr.heap.size 0 #[.int .i64 d.id, .int .i64 d.vr, .int .i64 d.sq] rfl rfl TH1 (by kernel_rfl) (by simp [Value.oneCell']) ?_
               rw [← HW1.out]
               clear TH1)
            | (refine wpList_load_mid rfl 68 (.tmp 7) rfl wr.heap.size 0 rfl [.int .i64 d.id, .int .i64 d.vr, .int .i64 d.sq] _ RG1 hu rfl (by kernel_rfl) ?_
               simp only [Act.put, List.setIfInBounds_toArray, List.set_cons_zero, List.set_cons_succ])
            | fail)
          refine HC.out.mono ?_
          rintro e w2 ⟨rfl, hb2⟩
          have HR2 := Lib.hid (row_later HR1.out hb2)
          have HG2 := Lib.hid (HG1.out.trans (grown_below (r := some q) hb2))
          clear hb2 HC hrg RG1 HR1 HB1
          go_wp2_with fail
          go_roundw
          case rel => exact ⟨i, j + 1, cl, by omega, by omega, by go_num, rfl, HNK, HR2, HG2⟩
          case measure => simp [iOf]; omega
      · obtain rfl : n = j := by omega
        have d0 : decide ((n : Int) < (n : Int)) = false := decide_eq_false (by omega)
        have hfil : cl.take i = l.filter (fun d => decide (x < d.sq)) := by
          rw [HK.out.front, List.take_of_length_le (by rw [HN.out]; exact Nat.le_refl _)]
        have hfl : (l.filter (fun d => decide (x < d.sq))).length = i := by
          have := HK.out.len
          rw [← hfil, List.length_take, this, HN.out]; omega
        have hzl := zcs_len (n - i)
        obtain ⟨h5, h6, h7⟩ := row_front HR.out (Nat.le_of_lt hij) (zcs (n - i)) (by rw [hzl, ← Nat.add_mul]; exact Nat.mul_le_mul_right 3 (by omega))
        rw [rws_take cl i (ddc_lens cl), hfil] at h5
        have hni : 0 < n - i := by omega
        have hcc : ∀ t, t < (zcs (n - i)).length → (wr.cell? ⟨q, i * 3 + t, none⟩).isSome = true := fun t ht => h6 _ (by rw [hzl] at ht; have := Nat.mul_le_mul_right 3 (show i + (n - i) ≤ n by omega); rw [Nat.add_mul] at this; omega)
        have hff : ∀ t, t < (zcs (n - i)).length → wr.frozen? ⟨q, i * 3 + t, none⟩ = false := fun t _ => h7 _
        have HCC := Lib.hid hcc
        have HFF := Lib.hid hff
        have HR5 := Lib.hid h5
        have HFL := Lib.hid hfl
        have HG5 : Hid (w.grownBy (wr.setCells q (i * 3) (zcs (n - i))) (some q)) := Lib.hid (HG.out.trans (grown_sets _ _ _ _))
        have hci : i < c := by have := HCM.out.1; omega
        have hcz : ¬ c = i := by omega
        have HNI := Lib.hid hni
        have hcn : n ≤ c := HCM.out.1
        clear hfil hfl hzl h5 h6 h7 hcc hff HK HR HG HIS
        go_wp2_with (first
          | (refine wpList_clearK rfl (.tmp 38) 27 68 _ (zcs (n - i)) (n - i) HNI.out rfl Try.underlying27 Try.zeroValue68 rfl (zcs_one _) q (i * 3) (c - i) rfl HCC.out HFF.out ?_
             simp only [Act.put, List.setIfInBounds_toArray, List.set_cons_zero, List.set_cons_succ])
          | fail)
        go_ret
        exact ⟨i, rfl, HFL.out, HR5.out, HG5.out⟩
set_option maxRecDepth 100000 in
set_option maxHeartbeats 3200000 in
theorem strim_any (L g b : Nat) (r : Option Nat) (N : Nat) (s : Sh) (w : World) (h : SfAt w L g b r N s) (x : Int) (hz : s.dd.length ≤ 65536) :
    Calls Try.prog 11 #[.pointer (some ⟨g, 0, none⟩), .int .i64 x] w fun e w' => e = .returned (.tuple #[]) ∧ ∃ r', SfAt w' L g b r' N (strim s x) ∧ TurnS w w' g b r ∧ RowS w r r' := by
  have hb := (Below.refl w.heap.size w).alloc (Nat.le_refl _) (.cells #[.int .i64 x] 3)
  obtain ⟨W1, hW1⟩ : ∃ W1, W1 = w.alloc (.cells #[.int .i64 x] 3) := ⟨_, rfl⟩
  rw [← hW1] at hb
  have h1 := h.later hb
  have HNO := Lib.hid (none_any L g b r N s W1 h1)
  obtain ⟨A, c, c0, c1, c2, hB, hr, hre, hs⟩ := h1.cells
  have hcl : W1.cell? ⟨w.heap.size, 0, none⟩ = some (.int .i64 x) := by rw [hW1]; exact (Blk.new w [.int .i64 x] 3).cell (j := 0) rfl
  have hzz : w.heap.size < W1.heap.size := by rw [hW1]; simp
  have HD := Lib.hid (delf_any L A s.dd.length c s.dd w.heap.size x W1 hr rfl hcl hzz (by rw [← hre]; intro e; have := (h.row _ e).2; omega) hz)
  rw [← hre] at HD
  have HH1 := Lib.hid h1
  have HB := Lib.hid hb
  have HW1 := Lib.hid hW1
  have HRE := Lib.hid hre
  have HSF : Hid (strim s x = ⟨s.nx, s.cs, s.dd.filter (fun d => decide (x < d.sq))⟩) := Lib.hid rfl
  have HC2 := Lib.hid c2
  generalize hdn : s.dd.length = dn at c2 HD HC2 HRE
  have hfl := List.length_filter_le (fun d : Dd => decide (x < d.sq)) s.dd
  generalize s.dd.filter (fun d => decide (x < d.sq)) = fl at HD HSF
  clear h h1 hb hW1 hB hr hre hs hcl hzz hz hdn hfl
  go_enter Try.func11, Try.ntmps11
  go_wp2_with fail
  rw [← HW1.out]
  refine HNO.out.mono ?_
  rintro e w1 ⟨rfl, rfl⟩
  go_wp2_with fail
  refine HD.out.mono ?_
  rintro e w2 ⟨m, rfl, hm, hr2, hg2⟩
  have hat : RowS W1 r (Value.slice A m c).ownBlock := fun k hk => .inl (by
    rw [HRE.out]
    cases A with
    | none => cases hk
    | some ad => exact hk)
  obtain ⟨H3, T3, z3, f3⟩ := HH1.out.newRow hg2 hr2 hm hat
  rw [HC2.out] at z3
  obtain ⟨W3, hW3⟩ : ∃ W3, W3 = w2.setCell ⟨g, 2, none⟩ (.slice A m c) := ⟨_, rfl⟩
  rw [← hW3] at H3 T3
  have H3 := Lib.hid H3
  have T3 := Lib.hid ((TurnS.of_below HB.out g b r).trans T3 (RowS.refl _ _))
  have R3 := Lib.hid ((RowS.refl w r).trans hat HB.out.size)
  have HW3 := Lib.hid hW3
  clear hm hr2 hg2 hat hW3 HD c0 c1 c2
  go_wp2_with fail
  go_end0
  rw [← HW3.out]
  exact ⟨rfl, _, by rw [HSF.out]; exact H3.out, T3.out, R3.out⟩
end Go.Proofs.Ytgkpbkedaddekaa

/- Contracts of Go's library at this program: maps.Keys, slices.Sorted, slices.Sort at ints, laid by the shelf's own tools. No condition beside what each says. -/
namespace Go.Proofs.Ytgkpbkedaddekaa
open Go Go.Shelf
def Try.keysC_ren : Go.Shelf.Ren := ⟨fun | 7 => 39 | 10 => 59 | n => n, fun | 23 => 61 | 26 => 3 | 3 => 44 | 28 => 78 | 0 => 0 | 27 => 77 | 33 => 73 | 4 => 4 | n => n, fun | n => n⟩
theorem Try.keysC : Go.Proofs.SlLaysZI.n7 Try.prog Try.keysC_ren := {
  mixed := by kernel_rfl
  f7 := ⟨Try.f39.name, by decide, Try.func39.trans (congrArg some (by kernel_rfl))⟩
  f10 := ⟨Try.f59.name, by decide, Try.func59.trans (congrArg some (by kernel_rfl))⟩
  t0 := Try.underlying0
  a0 := Try.isAgg0
  z0 := Try.sizeOf0
  v0 := Try.zeroValue0
  t4 := Try.underlying4
  a4 := Try.isAgg4
  z4 := Try.sizeOf4
  v4 := Try.zeroValue4
  t23 := Try.underlying61
  a23 := Try.isAgg61
  z23 := Try.sizeOf61
  v23 := Try.zeroValue61
  t26 := Try.underlying3
  a26 := Try.isAgg3
  z26 := Try.sizeOf3
  v26 := Try.zeroValue3
  t27 := Try.underlying77
  a27 := Try.isAgg77
  z27 := Try.sizeOf77
  v27 := Try.zeroValue77
  t28 := Try.underlying78
  a28 := Try.isAgg78
  z28 := Try.sizeOf78
  v28 := Try.zeroValue78
  t33 := Try.underlying73
  a33 := Try.isAgg73
  z33 := Try.sizeOf73
  v33 := Try.zeroValue73 }
def Try.sortedI_ren : Go.Shelf.Ren := ⟨fun | 6 => 38 | 8 => 57 | 9 => 58 | 11 => 65 | 13 => 67 | 12 => 66 | 23 => 79 | 24 => 80 | 14 => 70 | 15 => 71 | 16 => 72 | 17 => 73 | 18 => 74 | 19 => 75 | 20 => 76 | 21 => 77 | 22 => 78 | 25 => 82 | 26 => 83 | 27 => 84 | 28 => 85 | 29 => 86 | 30 => 87 | 31 => 88 | n => n, fun | 26 => 3 | 28 => 78 | 24 => 75 | 0 => 0 | 3 => 3 | 37 => 97 | 48 => 31 | 50 => 109 | 4 => 4 | 40 => 100 | 39 => 99 | 45 => 105 | 5 => 5 | 9 => 9 | 51 => 111 | 55 => 115 | 57 => 117 | 58 => 118 | 33 => 73 | n => n, fun | n => n⟩
theorem Try.sortedI : Go.Proofs.SlLaysZI.n6 Try.prog Try.sortedI_ren := {
  mixed := by kernel_rfl
  f6 := ⟨Try.f38.name, by decide, Try.func38.trans (congrArg some (by kernel_rfl))⟩
  f8 := ⟨Try.f57.name, by decide, Try.func57.trans (congrArg some (by kernel_rfl))⟩
  f11 := ⟨Try.f65.name, by decide, Try.func65.trans (congrArg some (by kernel_rfl))⟩
  t0 := Try.underlying0
  a0 := Try.isAgg0
  z0 := Try.sizeOf0
  v0 := Try.zeroValue0
  t24 := Try.underlying75
  a24 := Try.isAgg75
  z24 := Try.sizeOf75
  v24 := Try.zeroValue75
  t26 := Try.underlying3
  a26 := Try.isAgg3
  z26 := Try.sizeOf3
  v26 := Try.zeroValue3
  t28 := Try.underlying78
  a28 := Try.isAgg78
  z28 := Try.sizeOf78
  v28 := Try.zeroValue78
  i26 := by kernel_rfl }
def Try.sortI_ren : Go.Shelf.Ren := ⟨fun | 5 => 58 | 8 => 67 | 7 => 66 | 19 => 79 | 20 => 80 | 10 => 70 | 11 => 71 | 12 => 72 | 13 => 73 | 14 => 74 | 15 => 75 | 16 => 76 | 17 => 77 | 18 => 78 | 30 => 82 | 31 => 83 | 32 => 84 | 33 => 85 | 34 => 86 | 35 => 87 | 40 => 88 | n => n, fun | 23 => 75 | 25 => 3 | 3 => 3 | 32 => 97 | 22 => 75 | 0 => 0 | 44 => 31 | 46 => 109 | 4 => 4 | 36 => 100 | 35 => 99 | 41 => 105 | 5 => 5 | 9 => 9 | 53 => 111 | 57 => 115 | 63 => 117 | 64 => 118 | n => n, fun | n => n⟩
theorem Try.sortI : Go.Proofs.SlLaysM.n5 Try.prog Try.sortI_ren := {
  mixed := by kernel_rfl
  f5 := ⟨Try.f58.name, by decide, Try.func58.trans (congrArg some (by kernel_rfl))⟩
  f7 := ⟨Try.f66.name, by decide, Try.func66.trans (congrArg some (by kernel_rfl))⟩
  f8 := Try.func67.trans (congrArg some (by kernel_rfl))
  f10 := ⟨Try.f70.name, by decide, Try.func70.trans (congrArg some (by kernel_rfl))⟩
  f11 := ⟨Try.f71.name, by decide, Try.func71.trans (congrArg some (by kernel_rfl))⟩
  f12 := ⟨Try.f72.name, by decide, Try.func72.trans (congrArg some (by kernel_rfl))⟩
  f13 := ⟨Try.f73.name, by decide, Try.func73.trans (congrArg some (by kernel_rfl))⟩
  f14 := ⟨Try.f74.name, by decide, Try.func74.trans (congrArg some (by kernel_rfl))⟩
  f15 := ⟨Try.f75.name, by decide, Try.func75.trans (congrArg some (by kernel_rfl))⟩
  f16 := ⟨Try.f76.name, by decide, Try.func76.trans (congrArg some (by kernel_rfl))⟩
  f17 := ⟨Try.f77.name, by decide, Try.func77.trans (congrArg some (by kernel_rfl))⟩
  f18 := ⟨Try.f78.name, by decide, Try.func78.trans (congrArg some (by kernel_rfl))⟩
  f19 := Try.func79.trans (congrArg some (by kernel_rfl))
  f20 := Try.func80.trans (congrArg some (by kernel_rfl))
  f30 := ⟨Try.f82.name, by decide, Try.func82.trans (congrArg some (by kernel_rfl))⟩
  f31 := Try.func83.trans (congrArg some (by kernel_rfl))
  f32 := Try.func84.trans (congrArg some (by kernel_rfl))
  f33 := ⟨Try.f85.name, by decide, Try.func85.trans (congrArg some (by kernel_rfl))⟩
  f34 := ⟨Try.f86.name, by decide, Try.func86.trans (congrArg some (by kernel_rfl))⟩
  f35 := ⟨Try.f87.name, by decide, Try.func87.trans (congrArg some (by kernel_rfl))⟩
  f40 := ⟨Try.f88.name, by decide, Try.func88.trans (congrArg some (by kernel_rfl))⟩
  t0 := Try.underlying0
  a0 := Try.isAgg0
  z0 := Try.sizeOf0
  v0 := Try.zeroValue0
  t3 := Try.underlying3
  a3 := Try.isAgg3
  z3 := Try.sizeOf3
  v3 := Try.zeroValue3
  t4 := Try.underlying4
  a4 := Try.isAgg4
  z4 := Try.sizeOf4
  v4 := Try.zeroValue4
  t5 := Try.underlying5
  a5 := Try.isAgg5
  z5 := Try.sizeOf5
  v5 := Try.zeroValue5
  t9 := Try.underlying9
  a9 := Try.isAgg9
  z9 := Try.sizeOf9
  v9 := Try.zeroValue9
  t22 := Try.underlying75
  a22 := Try.isAgg75
  z22 := Try.sizeOf75
  v22 := Try.zeroValue75
  t23 := Try.underlying75
  a23 := Try.isAgg75
  z23 := Try.sizeOf75
  v23 := Try.zeroValue75
  t25 := Try.underlying3
  a25 := Try.isAgg3
  z25 := Try.sizeOf3
  v25 := Try.zeroValue3
  t32 := Try.underlying97
  a32 := Try.isAgg97
  z32 := Try.sizeOf97
  v32 := Try.zeroValue97
  t35 := Try.underlying99
  a35 := Try.isAgg99
  z35 := Try.sizeOf99
  v35 := Try.zeroValue99
  t36 := Try.underlying100
  a36 := Try.isAgg100
  z36 := Try.sizeOf100
  v36 := Try.zeroValue100
  t41 := Try.underlying105
  a41 := Try.isAgg105
  z41 := Try.sizeOf105
  v41 := Try.zeroValue105
  t44 := Try.underlying31
  a44 := Try.isAgg31
  z44 := Try.sizeOf31
  v44 := Try.zeroValue31
  t46 := Try.underlying109
  a46 := Try.isAgg109
  z46 := Try.sizeOf109
  v46 := Try.zeroValue109
  t53 := Try.underlying111
  a53 := Try.isAgg111
  z53 := Try.sizeOf111
  v53 := Try.zeroValue111
  t57 := Try.underlying115
  a57 := Try.isAgg115
  z57 := Try.sizeOf115
  v57 := Try.zeroValue115
  t63 := Try.underlying117
  a63 := Try.isAgg117
  z63 := Try.sizeOf117
  v63 := Try.zeroValue117
  t64 := Try.underlying118
  a64 := Try.isAgg118
  z64 := Try.sizeOf118
  v64 := Try.zeroValue118 }
end Go.Proofs.Ytgkpbkedaddekaa

/- The keys of a map whose keys are ints, sorted: slices.Sorted(maps.Keys(m)). -/
namespace Go.Proofs.Ytgkpbkedaddekaa
set_option linter.unusedVariables false
set_option linter.unusedSimpArgs false
open Go Go.RowKit Go.Maps Go.Sort Go.Shelf

theorem row_le {w : World} {base : Nat} {e : TypeId} {size n c : Nat} {A : Option Addr} {xs : List Value} (h : w.ownsRow base e size (.slice A n c) n xs) : n ≤ c := by
  rcases h.2 with ⟨e, h0⟩ | ⟨g, cap, cur, e, hx⟩
  · cases e; omega
  · cases e; exact hx.2.2.1
theorem sortsI (m : Nat) : AnyZI.SortsIn Try.prog Try.sortedI_ren Fence.wide m :=
  ⟨fun blk off cap ss W hH hblk hsz => callsIn_wide.2 (AnyM.slices_Sort_int Try.sortI blk off cap ss W hH hblk hsz),
   fun p cap W => callsIn_wide.2 (AnyM.slices_Sort_int_none Try.sortI p cap W)⟩
/-- The keys of a map, sorted, are handed back in memory of the call's own. -/
def GivesK (w0 : Nat) (l : List Int) (e : Ending) (W w' : World) : Prop :=
  ∃ A c, e = .returned (.slice A l.length c) ∧ Sees w' w'.heap.size A (l.map fun x => Value.int .i64 x) ∧ l.length ≤ c ∧ Below W.heap.size W w'
theorem keysC_any (b : Nat) (W : World) : Calls Try.prog 39 #[.map (some b)] W fun e w' =>
    e = .returned (.func (.func 59) #[] #[.pointer (some ⟨W.heap.size, 0, none⟩)]) ∧ w' = W.alloc (.cells #[.map (some b)] 61) :=
  (callsIn_wide (n := 5)).1 (AnyZI.keys_in Try.keysC Fence.wide 5 trivial rfl (some b) W)
theorem sortedC_any {α : Type} (f : α → Value) (b N : Nat) (m : KV α) (w : World) (hr : KRise m) (hI : MapI Try.prog 3 w b N (vmap f m)) (hm : m.length ≤ 65536) :
    Calls Try.prog 38 #[.func (.func 59) #[] #[.pointer (some ⟨w.heap.size, 0, none⟩)]] (w.alloc (.cells #[.map (some b)] 61)) fun e w' =>
      GivesK w.heap.size (m.map (·.1)) e (w.alloc (.cells #[.map (some b)] 61)) w' := by
  refine (callsIn_wide (n := 5)).1 ?_
  have hown := hI.own
  have hbl := hown.lt
  have hsz : Maps.size (DataW.map ((vmap f m).map mlit) : DataW Value) = m.length := vmap_size f m
  have hseq : SeqGives Fence.wide 2 Try.prog 59 #[.pointer (some ⟨w.heap.size, 0, none⟩)] encZ (fun ss => ss.Perm (intKeys (DataW.map ((vmap f m).map mlit) : DataW Value))) (Maps.size (DataW.map ((vmap f m).map mlit) : DataW Value)) (w.alloc (.cells #[.map (some b)] 61)) :=
    AnyZI.keys_gives (ρ := Try.keysC_ren) { Try.keysC with } Fence.wide _ trivial rfl (by omega) w.heap.size b N _ _ (by simp) (by simp) (by
      obtain ⟨es, clock, hb, Ft, hs, hD⟩ := hown
      exact ⟨es, clock, (Below.heap_alloc _ _ b hbl).trans hb, Ft, hs, hD⟩)
  refine (AnyZI.sorted_in Try.sortedI Fence.wide 5 trivial trivial trivial trivial rfl (by omega) (sortsI _) (enters_of Try.func58 (by kernel_rfl) rfl) 59 #[.pointer (some ⟨w.heap.size, 0, none⟩)] trivial (enters_of Try.func59 (by kernel_rfl) rfl) _ _ (by rw [hsz]; unfold maxLen; omega) (by rw [hsz]; omega) _ hseq).mono ?_
  rintro e w' ⟨v, ss, rfl, hp, hrow, hnil, hb⟩
  have hl : ss.length = (m.map (·.1)).length := by
    have := hp.length_eq
    rw [vmap_keys] at this
    exact this
  rw [keys_sorted f hr hp] at hrow
  obtain ⟨A, c, rfl⟩ := row_form hrow
  refine ⟨A, c, by rw [hl], row_sees hrow, by rw [← hl]; exact row_le hrow, hb⟩
end Go.Proofs.Ytgkpbkedaddekaa
