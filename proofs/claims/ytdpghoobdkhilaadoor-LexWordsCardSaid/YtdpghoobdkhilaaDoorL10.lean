/- The words of any text are the document's: the walk of LexWords. -/
import Derived.Test.YtdpghoobdkhilaaDoorL9
namespace Go.Proofs.YtdpghoobdkhilaaDoor
set_option linter.unusedVariables false
set_option linter.unusedSimpArgs false
open Go Go.RowKit Go.Shelf BitM MskM ValM LexM
attribute [local go_sem] Oper.semAt_some

theorem rowv_own {β : Type} (n₀ : Nat) (e : TypeId) (size k : Nat) (v : Value) (xs : List Value) : ∀ (s : β) (X Y : World) (row : Option Nat), X.ownsRow n₀ e size v k xs → X.grownBy Y row → (∀ r, row = some r → ∃ o : Obj, X.heap[r]? = some o ∧ o.isCells = false) → Y.ownsRow n₀ e size v k xs := by
  intro s X Y row hr hg hrow
  refine World.ownsRow.kept hr hg ?_
  rcases hr.2 with ⟨rfl, _⟩ | ⟨g, cap, cur, rfl, _, hgb, _⟩
  · exact .inl rfl
  · refine .inr (fun e' => ?_)
    obtain ⟨o, ho, hc⟩ := hrow g e'.symm
    rw [hgb] at ho
    cases ho
    cases hc

/-- What holds in the law's loop: the counter, both lists, what the law returns. -/
structure LWs (w : World) (g9 g6 j n c2 c : Nat) (A2 A : Option Addr) (L : List Wd) (W : World) : Prop where
  n9 : Boxed W g9 3 (.int .i64 (j : Int))
  l6 : Boxed W g6 27 (.slice A2 n c2)
  b2 : Boxed W w.heap.size 4 (.bool false)
  r1 : W.ownsRow (w.heap.size + 1) 34 4 (.slice A n c) n (lcs L)
  r2 : W.ownsRow (w.heap.size + 1) 38 4 (.slice A2 n c2) n (lcs L)
  below : Below w.heap.size w W
  z : g9 + 2 ≤ W.heap.size
theorem LWs.own (w : World) (g9 g6 n c2 c : Nat) (A2 A : Option Addr) (L : List Wd) (B : Nat) (hB : w.heap.size ≤ B) : OwnFrom B (fun (s : List Wd) W => LWs w g9 g6 s.length n c2 c A2 A L W) := by
  intro s X Y row h hg hr
  have hr2 : ∀ r, row = some r → ∃ o : Obj, X.heap[r]? = some o ∧ o.isCells = false := fun r e => (hr r e).2
  have hbx : ∀ {b : Nat} {t : TypeId} {v : Value}, Boxed X b t v → Boxed Y b t v := fun {b t v} hb => hb.kept hg (fun e => by
    obtain ⟨o, ho, hc⟩ := hr2 b e.symm
    rw [show X.heap[b]? = _ from hb] at ho
    cases ho
    cases hc)
  exact ⟨hbx h.n9, hbx h.l6, hbx h.b2, rowv_own _ _ _ _ _ _ s X Y row h.r1 hg hr2, rowv_own _ _ _ _ _ _ s X Y row h.r2 hg hr2, h.below.grown hg h.below.size (fun k e => Nat.le_trans hB (hr k e).1), Nat.le_trans h.z hg.size⟩

theorem LWs.later {w : World} {g9 g6 j n c2 c : Nat} {A2 A : Option Addr} {L : List Wd} {X Y : World} (h : LWs w g9 g6 j n c2 c A2 A L X) (hb : Below X.heap.size X Y) : LWs w g9 g6 j n c2 c A2 A L Y :=
  ⟨(hb.block _ h.n9.lt).trans h.n9, (hb.block _ h.l6.lt).trans h.l6, (hb.block _ h.b2.lt).trans h.b2, row_later h.r1 hb, row_later h.r2 hb, h.below.trans (hb.mono h.below.size), Nat.le_trans h.z hb.size⟩
/-- The counter is one more. -/
theorem LWs.count {w : World} {g9 g6 j n c2 c : Nat} {A2 A : Option Addr} {L : List Wd} {X : World} (h : LWs w g9 g6 j n c2 c A2 A L X) (h6 : g6 ≠ g9) (hg : w.heap.size < g9) (hA : (Value.slice A n c).ownBlock ≠ some g9) (hA2 : (Value.slice A2 n c2).ownBlock ≠ some g9) :
    LWs w g9 g6 (j + 1) n c2 c A2 A L (X.setCell ⟨g9, 0, none⟩ (.int .i64 ((j : Int) + 1))) :=
  ⟨h.n9.set (.int .i64 ((j : Int) + 1)), h.l6.other h6 _, h.b2.other (by omega) _, World.ownsRow.kept h.r1 (grownBy_setCell' X g9 _) (.inr (fun e => hA (by rw [e]))), World.ownsRow.kept h.r2 (grownBy_setCell' X g9 _) (.inr (fun e => hA2 (by rw [e]))), h.below.setCell (p := ⟨g9, 0, none⟩) (by show w.heap.size ≤ g9; omega) _, by rw [size_setCell']; exact h.z⟩
/-- The rows are not the counter. -/
theorem box_not_row {X : World} {b n₀ : Nat} {t e : TypeId} {size n : Nat} {u v : Value} {xs : List Value} (hb : Boxed X b t u) (hr : X.ownsRow n₀ e size v n xs) (hte : t ≠ e) : v.ownBlock ≠ some b := by
  intro h
  rcases hr.2 with ⟨rfl, _⟩ | ⟨g, cap, cur, rfl, _, hgb, _⟩
  · cases h
  · have hg : g = b := by simpa [Value.ownBlock] using h
    subst hg
    rw [show X.heap[g]? = _ from hb] at hgb
    injection hgb with hgb
    injection hgb with _ h2 _
    exact hte h2
theorem boxed_putD {B D : Nat} {t : TypeId} {v : Value} {W : World} (h : Boxed W B t v) (hK : W.heap[D]? = some (.deferred (some []))) : Boxed (W.putObj D (.deferred none)) B t v :=
  boxed_own B t (fun _ : Unit => v) () W _ (some D) h (grownBy_putObj' W D _) (fun r e => by cases e; exact ⟨_, hK, rfl⟩)
def relWd (x : Wd) : Rel where
  rel v w := ∃ g, v = .slice (some ⟨g, 0, none⟩) 1 1 ∧ Blk w g (wcells4 x)
  mono := fun v w w' h ⟨g, e, hb⟩ => ⟨g, e, hb.later h⟩
  real := fun w ⟨_, e, _⟩ => by cases e
theorem wd1_gives {a : Act} {op : Oper} (y : Operand) (x0 x1 x2 : Int) (x3 : ByteArray) (ho : op.op = .buildSlice 23 1 #[(0, y)]) (hy : a.eval y = .agg #[.int .i64 x0, .int .i64 x1, .int .i64 x2, .string x3]) (w : World) : gives Tryd.prog op a (relWd (x0, x1, x2, x3)).rel w := by
  have hrun : ∀ w, (Instr.buildSlice 23 1 #[(0, .agg #[.int .i64 x0, .int .i64 x1, .int .i64 x2, .string x3])]).run Tryd.prog w = .ok (.slice (some ⟨w.heap.size, 0, none⟩) 1 1) (w.alloc (.cells #[.int .i64 x0, .int .i64 x1, .int .i64 x2, .string x3] 34)) := fun w => by kernel_rfl
  unfold gives execOp
  simp only [ho, List.map_toArray, List.map_cons, List.map_nil, hy, Sem.run_bind, hrun, Result.andThen_ok, Sem.run_pure]
  exact ⟨(Below.refl _ _).alloc (Nat.le_refl _) _, _, rfl, Blk.new w (wcells4 (x0, x1, x2, x3)) _⟩
theorem exec_slice2 {P : Program} {a : Act} {o : Oper} {w : World} {v : Value} (t e : TypeId) (ht : P.underlying t = some (.slice e)) (x lo hi : Operand) (ho : o.op = .slice t x (some lo) (some hi) none) (h : (Instr.slice t (a.eval x) (some (a.eval lo)) (some (a.eval hi)) none).run P w = .ok v w) : (execOp a.eval o).run P w = .ok (.value v) w := by
  have he : P.elem t = e := by simp [Program.elem, ht]
  have ht' : P.underlying t = some (.slice (P.elem t)) := by rw [he]; exact ht
  unfold execOp
  simp only [ho, Option.map_some, Option.map_none, Sem.run_bind, run_sliceAt_slice _ t _ _ _ _ ht', h, Result.andThen_ok, Sem.run_pure]
theorem lcs_piece (l : List Wd) (k : Nat) (h : k < l.length) : ((lcs l).drop (k * 4)).take (1 * 4) = lcs [l[k]] := by
  induction l generalizing k with
  | nil => simp at h
  | cons x l ih =>
    rw [show lcs (x :: l) = wcells4 x ++ lcs l from rfl]
    cases k with
    | zero => simp [wcells4, lcs]
    | succ k =>
      rw [show (k + 1) * 4 = 4 + k * 4 by omega, ← List.drop_drop, List.drop_append_of_le_length (by simp [wcells4])]
      simpa [wcells4] using ih k (by simpa using h)

set_option maxRecDepth 100000 in
set_option maxHeartbeats 6400000 in
theorem walk_words (t : ByteArray) (w : World) (hm : t.size ≤ 9223372036854775807) (ht : Tab w) :
    Calls Tryd.prog 3 #[.string t] w fun e w' => e = .returned (.bool true) ∧ Below w.heap.size w w' := by
  have HA := Lib.hid (fun (wx : World) (hb : Below w.heap.size w wx) => law_any wx (ht.later hb))
  by_cases h5 : 5000 < t.size
  · have h2 : (5000 : Int) < (t.size : Int) := by omega
    have hba := (Below.refl w.heap.size w).alloc (Nat.le_refl _) (.cells #[.bool false] 4)
    go_enter Tryd.func3, Tryd.ntmps3
    go_wp2_with fail
    refine (HA.out _ hba).mono ?_
    rintro e w1 ⟨rfl, hb⟩
    have b1 := Boxed.new w 4 (.bool false)
    have b2 : Boxed w1 w.heap.size 4 (.bool false) := (hb.block _ b1.lt).trans b1
    have c2 := b2.cell
    have f2 := b2.frozen
    have b3 := b2.set (.bool true)
    have c3 := b3.cell
    have hbw : Below w.heap.size w (w1.setCell ⟨w.heap.size, 0, none⟩ (.bool true)) := (((Below.refl _ w).alloc (Nat.le_refl _) _).trans (hb.mono (by simp))).setCell (p := ⟨w.heap.size, 0, none⟩) (Nat.le_refl _) _
    clear b1 b2 b3 hb
    go_wp2_with fail
    exact bodyPost_ret (v := .bool true) (by simp [results, go_sem, c3]) rfl ⟨rfl, hbw⟩
  · have h2 : ¬ (5000 : Int) < (t.size : Int) := by omega
    obtain ⟨L, hL⟩ : ∃ L, L = outL t := ⟨_, rfl⟩
    obtain ⟨at_, hat⟩ : ∃ a, a = ((outA t : Nat) : Int) := ⟨_, rfl⟩
    obtain ⟨er, her⟩ : ∃ a, a = outE t := ⟨_, rfl⟩
    obtain ⟨n, hn⟩ : ∃ n, n = L.length := ⟨_, rfl⟩
    have hn1 : n ≤ 1000 := by rw [hn, hL]; exact outL_len t w ht
    have H1 : Hid (∀ wx, Below w.heap.size w wx → Calls Tryd.prog 6 #[.string t] wx fun e w' => ∃ A c, e = .returned (.tuple #[.slice A n c, .int .i64 at_, .int .i64 er]) ∧ w'.ownsRow wx.heap.size 34 4 (.slice A n c) n (lcs L) ∧ Below wx.heap.size wx w') := Lib.hid (fun wx hb => by
      rw [hn, hat, her, hL]
      exact (all_out t wx (ht.later hb) hm).mono fun e w' h => h)
    have H2 : Hid (∀ wx, Below w.heap.size w wx → Calls Tryd.prog 7 #[.string t] wx fun e w' => ∃ A c, e = .returned (.tuple #[.slice A n c, .int .i64 at_, .int .i64 er]) ∧ w'.ownsRow wx.heap.size 38 4 (.slice A n c) n (lcs L) ∧ Below wx.heap.size wx w') := Lib.hid (fun wx hb => by
      rw [hn, hat, her, hL]
      exact (rall_out t wx (ht.later hb) hm).mono fun e w' h => h)
    have HLN := Lib.hid hn
    clear hL hat her hn ht h5
    have b0 := Boxed.new w 4 (.bool false)
    have hb0 : Below w.heap.size w (w.alloc (.cells #[.bool false] 4)) := (Below.refl _ w).alloc (Nat.le_refl _) _
    have hz0 : (w.alloc (.cells #[.bool false] 4)).heap.size = w.heap.size + 1 := by simp
    refine (callsIn_wide (n := 5)).1 ?_
    refine callsIn_of_wp_marks Tryd.func3 rfl trivial ?_ rfl
    simp only [Tryd.ntmps3, List.size_toArray, List.length_cons, List.length_nil, Nat.reduceAdd, Nat.reduceSub, Array.replicate_succ, Array.replicate_zero, List.push_toArray, List.append_toArray, List.nil_append, List.cons_append]
    gi_wp2_with fail
    refine ⟨trivial, (callsIn_wide.2 (H1.out _ hb0)).mono ?_⟩
    rintro e w1 ⟨A, c, rfl, hr1, hb1⟩
    rw [hz0] at hr1 hb1
    have hs1 : w.heap.size + 1 ≤ w1.heap.size := by have := hb1.size; omega
    replace b0 : Boxed w1 w.heap.size 4 (.bool false) := (hb1.block _ (by omega)).trans b0
    replace hb0 := hb0.trans (hb1.mono (by omega))
    clear hb1 hz0
    gi_wp2_with fail
    refine ⟨trivial, (callsIn_wide.2 (H2.out _ hb0)).mono ?_⟩
    rintro e w2 ⟨A2, c2, rfl, hr2, hb2⟩
    replace hr2 := row_lower hr2 hs1
    replace hr1 := row_later hr1 hb2
    have hs2 := Nat.le_trans hs1 hb2.size
    replace b0 : Boxed w2 w.heap.size 4 (.bool false) := (hb2.block _ b0.lt).trans b0
    replace hb0 := hb0.trans (hb2.mono hb0.size)
    clear hb2 hs1
    obtain ⟨g6, hg6⟩ : ∃ g, g = w2.heap.size := ⟨_, rfl⟩
    rw [← hg6] at hs2
    have HG6 := Lib.hid hg6
    clear hg6
    gi_wp2_with fail
    refine ⟨trivial, (callsIn_wide.2 (each_any t _)).mono ?_⟩
    rintro e w3 ⟨rfl, rfl⟩
    have hnn := fun wx => leach_not_nil (w2.heap.size + 2) wx
    gi_wp2_with fail
    clear hnn
    rw [← HG6.out]
    have W6 := ((Boxed.new w2 27 (.slice A2 n c2)).alloc (.cells #[.int .i64 0] 3)).alloc (.cells #[.string t] 9)
    have W9 := (Boxed.new (w2.alloc (.cells #[.slice A2 n c2] 27)) 3 (.int .i64 0)).alloc (.cells #[.string t] 9)
    have WS := Boxed.new ((w2.alloc (.cells #[.slice A2 n c2] 27)).alloc (.cells #[.int .i64 0] 3)) 9 (.string t)
    have hz1 : (w2.alloc (.cells #[.slice A2 n c2] 27)).heap.size = g6 + 1 := by simp [HG6.out]
    have hz2 : ((w2.alloc (.cells #[.slice A2 n c2] 27)).alloc (.cells #[.int .i64 0] 3)).heap.size = g6 + 2 := by simp [HG6.out]
    rw [hz1] at W9
    rw [hz2] at WS
    rw [← HG6.out] at W6
    have hb3 := ((hb0.alloc (by rw [← HG6.out]; omega) (.cells #[.slice A2 n c2] 27)).alloc (by rw [hz1]; omega) (.cells #[.int .i64 0] 3)).alloc (by rw [hz2]; omega) (.cells #[.string t] 9)
    have b3 := ((b0.alloc (.cells #[.slice A2 n c2] 27)).alloc (.cells #[.int .i64 0] 3)).alloc (.cells #[.string t] 9)
    have r13 := ((World.ownsRow.alloc hr1 (.cells #[.slice A2 n c2] 27)).alloc (.cells #[.int .i64 0] 3)).alloc (.cells #[.string t] 9)
    have r23 := ((World.ownsRow.alloc hr2 (.cells #[.slice A2 n c2] 27)).alloc (.cells #[.int .i64 0] 3)).alloc (.cells #[.string t] 9)
    have hz3 : (((w2.alloc (.cells #[.slice A2 n c2] 27)).alloc (.cells #[.int .i64 0] 3)).alloc (.cells #[.string t] 9)).heap.size = g6 + 3 := by simp [HG6.out]
    obtain ⟨W0, hW0⟩ : ∃ W0, W0 = ((w2.alloc (.cells #[.slice A2 n c2] 27)).alloc (.cells #[.int .i64 0] 3)).alloc (.cells #[.string t] 9) := ⟨_, rfl⟩
    rw [← hW0] at W6 W9 WS hb3 b3 r13 r23 hz3 ⊢
    have HI0 : LWs w (g6 + 1) g6 0 n c2 c A2 A L W0 := ⟨W9, W6, b3, r13, r23, hb3, by omega⟩
    have HWS := Lib.hid WS.cell
    have HLE : ∀ W, Below W0.heap.size W0 W → Below w.heap.size w W := fun W h => hb3.trans (h.mono hb3.size)
    clear hW0 hz1 hz2 W6 W9 WS b3 r13 r23 hr1 hr2 hb0 b0 H2
    refine wpIn_rangeFunc_boxd (F := Fence.wide) rfl (by omega) (gf := 15) (lb := #[.pointer (some ⟨g6 + 2, 0, none⟩)]) rfl trivial (enters_of Tryd.func15 (by kernel_rfl) rfl)
      (each_told (5 - 1) (by omega) (g6 + 2) (g6 + 3) n t L at_ er W0 HLN.out.symm hn1 (by omega) (by omega) HWS.out (fun W hW => H1.out W (HLE W hW))) (fun h k => h.trans k)
      (fun W l o o' hl h h1 h2 => KeepC.putObj _ W l o o' h h1) (Below.refl _ _)
      (fun pre W => LWs w (g6 + 1) g6 pre.length n c2 c A2 A L W) (fun _ _ _ => False) (LWs.own w (g6 + 1) g6 n c2 c A2 A L _ hb3.size) (fun _ _ _ _ _ hs _ _ => hs) HI0 11 (fun x => wcells4 x) ?assign ?body ?done ?stop
    case assign =>
      rintro lp pre x W K hpr hI hK
      simp only [List.setIfInBounds_toArray, List.set_cons_zero, List.set_cons_succ] at hK ⊢
      obtain ⟨W3, hW3, TH, F3, B3, z3⟩ := word_put W 34 x
      subst hW3
      have ON := wcells4_one x
      have I3 := hI.later B3
      have hz := hI.z
      gi_wp2_with (first
        | (refine wpListIn_store rfl 34 (.tmp 11) (.tmp 33) rfl W.heap.size 0 (wcells4 x).toArray rfl rfl TH info_lw ON ?_
           simp only [Act.put]
           generalize hw4 : World.setCells _ W.heap.size 0 (wcells4 x).toArray.toList = w4
           have F4 : Blk w4 W.heap.size (wcells4 x) := hw4 ▸ F3
           have I4 : LWs w (g6 + 1) g6 pre.length n c2 c A2 A L w4 := hw4 ▸ I3
           have B4 : Below W.heap.size W w4 := hw4 ▸ B3
           clear hw4 TH F3 B3 z3 I3)
        | fail)
      exact hK w4 W.heap.size (by omega) ((KeepsOthers.of_grownBy (below_grownN B4) (fun j o e => by cases e)).from _) (KeepC.of_below B4) I4 F4
    case body =>
      rintro lp pre x Bx W hlp ⟨r, hr⟩ hpr hI hBx hBk hlt
      simp only [List.setIfInBounds_toArray, List.set_cons_zero, List.set_cons_succ]
      obtain ⟨j, hj⟩ : ∃ j, j = pre.length := ⟨_, rfl⟩
      have hpl : (pre ++ [x]).length = j + 1 := by rw [List.length_append, hj]; rfl
      rw [← hj] at hI hlt
      have hjl : j < L.length := by rw [← HLN.out]; exact hlt
      have hxv : L[j] = x := by
        obtain ⟨q, hq⟩ := hpr
        have : L[j]? = some x := by
          rw [← hq, List.append_assoc, List.getElem?_append_right (by omega), hj]
          simp
        rw [List.getElem?_eq_getElem hjl] at this
        injection this
      have HX : Hid (((lcs L).drop (j * 4)).take (1 * 4) = lcs [x]) := Lib.hid (by rw [lcs_piece L j hjl, hxv])
      have HPL := Lib.hid hpl
      have HLEN := Lib.hid (show (lcs L).length = n * 4 by rw [lcs_len, HLN.out])
      obtain ⟨i1, ji, jz0, jz1, jz2⟩ := info_parts info_rlws
      have hcc : n ≤ c2 := by
        rcases hI.r2.2 with ⟨e, h0⟩ | ⟨g, cap, cur, e, _, _, h1, _⟩
        · rw [h0]; exact Nat.zero_le _
        · injection e with _ _ e3
          rw [e3]
          exact h1
      have HI := Lib.hid hI
      obtain ⟨A3, hsl, hse⟩ := cutk_fact 27 38 i1 4 Tryd.underlying27 ji jz1 (row_sees hI.r2) n j 1 c2 (j : Int) ((j : Int) + 1) .i64 .i64 HLEN.out (by omega) rfl (by omega) hcc
      rw [HX.out] at hse
      have HSL := Lib.hid hsl
      have HSE := Lib.hid hse
      obtain ⟨x0, x1, x2, x3⟩ := x
      have c9 : ∀ kk : LW W, kk.val.cell? ⟨g6 + 1, 0, none⟩ = some (.int .i64 (j : Int)) := fun kk => (kk.le.cell (p := ⟨g6 + 1, 0, none⟩) hI.n9.lt).trans hI.n9.cell
      have c6 : ∀ kk : LW W, kk.val.cell? ⟨g6, 0, none⟩ = some (.slice A2 n c2) := fun kk => (kk.le.cell (p := ⟨g6, 0, none⟩) hI.l6.lt).trans hI.l6.cell
      have hj2 : ¬ ((n : Int) ≤ (j : Int)) := by omega
      have hj3 : decide ((n : Int) ≤ (j : Int)) = false := by simp; omega
      have hj4 : (j : Int) + 1 ≤ 9223372036854775807 := by omega
      have hj0 : (0 : Int) ≤ (j : Int) := by omega
      have HBK := Lib.hid hBk
      have hu := Tryd.underlying34
      clear hj hpl hjl hxv hsl hse hcc hI hBk hpr H1 HLE jz0 jz1 jz2 ji
      gi_wp2
      refine wpIn_region_steady (free_round lp _ _) (by kernel_rfl) [(40, relWd (x0, x1, x2, x3))] 73 (by kernel_rfl) (by kernel_rfl) (by kernel_rfl) (by rfl) ?_
      iterate 3 (refine wpG_quiet (by rfl) (by rfl) (by rfl) (fun K hK => ?_); go_big_quiet_op; refine hK _ ?_; clear hK K)
      refine wpG_run (by rfl) (by rfl) (.bool false) (fun w1 hl => by simp [go_sem]; omega) ?_
      simp only [Act.put, List.setIfInBounds_toArray, List.set_cons_zero, List.set_cons_succ]
      iterate 1 (refine wpG_quiet (by rfl) (by rfl) (by rfl) (fun K hK => ?_); go_big_quiet_op; refine hK _ ?_; clear hK K)
      refine wpG_run (by rfl) (by rfl) (.agg #[.int .i64 x0, .int .i64 x1, .int .i64 x2, .string x3]) (fun w1 hl => exec_load 34 (.tmp 11) rfl Bx 0 rfl (wcells4 (x0, x1, x2, x3)) _ ((HBK.out.later hl.1).range 0 _ rfl) hu rfl info_lw) ?_
      simp only [Act.put, List.setIfInBounds_toArray, List.set_cons_zero, List.set_cons_succ]
      refine wpG_open (relWd (x0, x1, x2, x3)) (by rfl) (by rfl) (fun w1 hl => wd1_gives (.tmp 39) x0 x1 x2 x3 rfl rfl w1) ?_
      rintro _ ⟨_, _, _, ⟨g, rfl, _⟩⟩
      simp only [Act.put, List.setIfInBounds_toArray, List.set_cons_zero, List.set_cons_succ]
      iterate 4 (refine wpG_quiet (by rfl) (by rfl) (by rfl) (fun K hK => ?_); go_big_quiet_op; refine hK _ ?_; clear hK K)
      refine wpG_run (by rfl) (by rfl) (.slice A3 1 (c2 - j)) (fun w1 hl => exec_slice2 27 38 Tryd.underlying27 (.tmp 41) (.tmp 42) (.tmp 44) rfl (HSL.out w1)) ?_
      simp only [Act.put, List.setIfInBounds_toArray, List.set_cons_zero, List.set_cons_succ]
      refine wpG_call (by rfl) (by rfl) 9 #[.slice (some ⟨g, 0, none⟩) 1 1, .slice A3 1 (c2 - j)] (.bool true) (by intro _; simp [go_sem]) (by kernel_rfl) (fun w1 hl => ?_) ?_
      · obtain ⟨g', eg, hB1⟩ := hl.2 40 _ (by simp [Op.operands, Call.operands]) rfl (by intro h; cases h)
        cases eg
        exact wsame_yes _ 1 1 A3 (c2 - j) [(x0, x1, x2, x3)] w1 rfl (fun _ => ⟨g, 0, rfl, hB1.lt, fun i hi => by rw [Nat.zero_add]; exact hB1.cell (List.getElem?_eq_getElem hi)⟩) ((HSE.out.below hl.1).more hl.1.size) (by omega)
      simp only [Act.put, List.setIfInBounds_toArray, List.set_cons_zero, List.set_cons_succ]
      refine wpG_run (by rfl) (by rfl) (.bool false) (fun w1 hl => by simp [go_sem]) ?_
      simp only [Act.put, List.setIfInBounds_toArray, List.set_cons_zero, List.set_cons_succ]
      iterate 1 (refine wpG_quiet (by rfl) (by rfl) (by rfl) (fun K hK => ?_); go_big_quiet_op; refine hK _ ?_; clear hK K)
      refine wpG_nil fun w1 hl _ => ?_
      have I1 := HI.out.later hl
      have d9 := I1.n9.cell
      have f9 := I1.n9.frozen
      have I2 := I1.count (by omega) (by omega) (box_not_row I1.n9 I1.r1 (by decide)) (box_not_row I1.n9 I1.r2 (by decide))
      have k1 := (KeepsOthers.of_grownBy (below_grownN hl) (fun j o e => by cases e)).trans (KeepsOthers.setCell w1 ⟨g6 + 1, 0, none⟩ (.int .i64 ((j : Int) + 1)))
      have k2 : KeepC (g6 + 3) W (w1.setCell ⟨g6 + 1, 0, none⟩ (.int .i64 ((j : Int) + 1))) := (KeepC.of_below hl).trans ⟨by rw [size_setCell']; exact Nat.le_refl _, fun k cs t fr hk h => (Below.heap_setCell w1 ⟨g6 + 1, 0, none⟩ _ k (by show k ≠ g6 + 1; omega)).trans h⟩
      have HF := Lib.hid (show LWs w (g6 + 1) g6 (pre ++ [(x0, x1, x2, x3)]).length n c2 c A2 A L (w1.setCell ⟨g6 + 1, 0, none⟩ (.int .i64 ((j : Int) + 1))) by rw [HPL.out]; exact I2)
      clear hl c9 c6 I1 I2 HI HSL HSE HBK
      gi_wp2_with fail
      exact ⟨k1.from _, k2, HF.out⟩
    case done =>
      rintro D ys W hD rfl hI hK
      rw [← HLN.out] at hI
      have HSA := Lib.hid (fun (wx : World) (hb : Below W.heap.size W wx) => wsame_yes A n c A2 c2 ys wx HLN.out.symm ((row_sees hI.r1).below hb |>.more hb.size) ((row_sees hI.r2).below hb |>.more hb.size) (by omega))
      have hDs : D < W.heap.size := (Array.getElem?_eq_some_iff.1 hK).1
      have l6 := hI.l6.cell
      have n9 := hI.n9.cell
      gi_wp2_with fail
      refine ⟨trivial, (callsIn_wide.2 (HSA.out _ (Below.refl _ _))).mono ?_⟩
      rintro e w5 ⟨rfl, hb5⟩
      have I5 := hI.later hb5
      have KK := (hb5.block D hDs).trans hK
      replace l6 := I5.l6.cell
      replace n9 := I5.n9.cell
      have hba := (Below.refl w5.heap.size w5)
      have HA5 := Lib.hid (HA.out w5 I5.below)
      clear hb5 hI hK HSA
      gi_wp2_with fail
      refine ⟨trivial, (callsIn_wide.2 HA5.out).mono ?_⟩
      rintro e w6 ⟨rfl, hb6⟩
      have I6 := I5.later hb6
      have K6 := (hb6.block D (Array.getElem?_eq_some_iff.1 KK).1).trans KK
      have c61 := I6.b2.cell
      have f61 := I6.b2.frozen
      have n6 := I6.b2.set (.bool true)
      have hK2 := (KeepsOthers.setCell w6 ⟨w.heap.size, 0, none⟩ (.bool true)).same D _ K6 rfl
      have hBW := I6.below.setCell (p := ⟨w.heap.size, 0, none⟩) (Nat.le_refl _) (.bool true)
      have r6 := (boxed_putD n6 hK2).cell
      clear l6 n9 KK K6 I5 I6 hba
      gi_wp2_with fail
      refine ⟨by simp, .inl ⟨_, _, rfl, run_takeDeferred hK2, ?_⟩⟩
      exact ⟨.bool true, (by simp [results, go_sem, r6]), rfl, hBW.trans (belowK_b (w := w) (Nat.le_refl _) _ D _ _ (by omega) hK2 rfl rfl)⟩
    case stop =>
      rintro D cc pre W _ _ h _
      exact h.elim
end Go.Proofs.YtdpghoobdkhilaaDoor
