/- Disks: a sector is written: Write: what it returns. -/
import Derived.Test.YtncbhpopobjaiaaR9
import Derived.Test.YtncbhpopobjaiaaR5
import Derived.Lib.LazyBuf
import Derived.Test.YtncbhpopobjaiaaR1
import Derived.Test.YtncbhpopobjaiaaR4
import Derived.Deep.Slices
import Derived.Deep.Strs
namespace Go.Proofs.Ytncbhpopobjaiaa
set_option linter.unusedVariables false
set_option linter.unusedSimpArgs false
open Go Go.RowKit

/-- copy(d, s), by its run. -/
theorem wpList_copy {P : Program} {w : World} {ops : Array Oper} {rest : List Oper} {o : Oper} {a : Act} {Q : Exit → Act → World → Prop} (hgd : o.guard = none) (d s : Operand) (t t' : TypeId)
    (ho : o.op = .call { callee := .builtin .copy, args := #[d, s], argTypes := #[t, t'] }) (v u : Value) (hd : a.eval d = v) (hs : a.eval s = u) {v' : Value} {w' : World}
    (hr : (Builtin.copy_ #[t, t'] o.type #[v, u]).run P w = .ok v' w') (h : wpList P ops Q rest (a.put o.dst v') w') : wpList P ops Q (o :: rest) a w :=
  wpList_plain hgd fun _ hK => by
    unfold Oper.wp execOp
    simp only [ho, resolve, invoke, builtin, Sem.run_bind, Sem.run_pure, Result.andThen_ok, List.map_toArray, List.map_cons, List.map_nil, hd, hs, hr]
    exact hK _ _ h
theorem wp_copy {P : Program} {w : World} {o : Oper} {a : Act} {K : Act → World → Prop} {Q : Exit → Act → World → Prop} (d s : Operand) (t t' : TypeId)
    (ho : o.op = .call { callee := .builtin .copy, args := #[d, s], argTypes := #[t, t'] }) (v u : Value) (hd : a.eval d = v) (hs : a.eval s = u) {v' : Value} {w' : World}
    (hr : (Builtin.copy_ #[t, t'] o.type #[v, u]).run P w = .ok v' w') (h : K (a.put o.dst v') w') : o.wp P a w K Q := by
  unfold Oper.wp execOp
  simp only [ho, resolve, invoke, builtin, Sem.run_bind, Sem.run_pure, Result.andThen_ok, List.map_toArray, List.map_cons, List.map_nil, hd, hs, hr]
  exact h
theorem step_run {P : Program} {ops : Array Oper} {o : Oper} {a : Act} {w w' : World} {K : Act → World → Prop} {Q : Exit → Act → World → Prop} {E : Prop} (hgd : o.guard = none) (v : Value)
    (he : (execOp a.eval o).run P w = .ok (.value v) w') (h : K (a.put o.dst v) w') : if Region.wanted o (yielded ops a.tmps) = true then Oper.wp P o a w K Q else E := by
  have hw : Region.wanted o (yielded ops a.tmps) = true := by simp [Region.wanted, hgd]
  rw [if_pos hw]
  unfold Oper.wp
  rw [he]
  exact h
theorem exec_lit {P : Program} {o : Oper} {a : Act} {w w' : World} (t : TypeId) (x : Operand) (ho : o.op = .buildSlice t 1 #[(0, x)]) (v r : Value) (hx : a.eval x = v) (hr : (Instr.buildSlice t 1 #[(0, v)]).run P w = .ok r w') : (execOp a.eval o).run P w = .ok (.value r) w' := by
  unfold execOp
  simp only [ho, List.map_toArray, List.map_cons, List.map_nil, hx, Sem.run_bind, hr, Result.andThen_ok, Sem.run_pure]
theorem Turn3.of_grown {w w' : World} {g b : Nat} {r : Option Nat} (h : w.grownBy w' r) : Turn3 w w' g b r := ⟨h.os, h.tape, h.output, h.size, fun k hk _ _ hr => h.block k hk hr⟩
/-- A slot that holds a slice of one write. -/
def relWri (x : Wr) : Rel where
  rel v w := ∃ g, v = .slice (some ⟨g, 0, none⟩) 1 1 ∧ Blk w g (wcell x)
  mono := fun v w w' h ⟨g, e, hb⟩ => ⟨g, e, hb.later h⟩
  real := fun w ⟨_, e, _⟩ => by cases e
theorem wri_gives {a : Act} {op : Oper} (y : Operand) (x : Wr) (xc : List Value) (hxc : xc = wcell x) (ho : op.op = .buildSlice 78 1 #[(0, y)]) (hx : a.eval y = .agg xc.toArray) (w : World) : gives Try.prog op a (relWri x).rel w := by
  subst hxc
  unfold gives execOp
  simp only [ho, List.map_toArray, List.map_cons, List.map_nil, hx, Sem.run_bind, run_wr1 x.1 x.2, Result.andThen_ok, Sem.run_pure]
  exact ⟨(Below.refl _ _).alloc (Nat.le_refl _) _, _, rfl, Blk.new w (wcell x) _⟩
theorem info_wrid : ∃ i0, Try.prog.info? 86 = some i0 ∧ i0.zero = some (.agg (wcell (0, z64)).toArray) ∧ i0.size = 65 ∧ i0.bytes = 72 := by
  have h : (Try.prog.info? 86).map (fun i => (i.zero, i.size, i.bytes)) = some (some (.agg (wcell (0, z64)).toArray), 65, 72) := by kernel_rfl
  cases hi : Try.prog.info? 86 with
  | none => rw [hi] at h; cases h
  | some i0 =>
    rw [hi] at h
    simp only [Option.map_some, Option.some.injEq, Prod.mk.injEq] at h
    exact ⟨i0, rfl, h.1, h.2.1, h.2.2⟩
/-- One more write waits. -/
theorem DkAt.push {w w6 : World} {L g b : Nat} {r : Option Nat} {D : Dk} {A A' : Option Addr} {c c' : Nat} (h : DkAt w L g b r D) (x : Wr) (hA : w.cell? ⟨g, 1, none⟩ = some (.slice A D.w.length c)) (hg : w.grownBy w6 (Value.slice A D.w.length c).ownBlock)
    (hr6 : w6.ownsRow L 86 65 (.slice A' (D.w.length + 1) c') (D.w.length + 1) (wcs D.w ++ wcell x)) (hat : (Value.slice A' (D.w.length + 1) c').ownBlock = (Value.slice A D.w.length c).ownBlock ∨ (Value.slice A' (D.w.length + 1) c').ownBlock = some w.heap.size) :
    ∃ r', DkAt (w6.setCell ⟨g, 1, none⟩ (.slice A' (D.w.length + 1) c')) L g b r' { D with w := D.w ++ [x] } ∧ Turn3 w (w6.setCell ⟨g, 1, none⟩ (.slice A' (D.w.length + 1) c')) g b r ∧ RowN w r r' := by
  have hlt := h.lt
  obtain ⟨⟨A0, c0, B, hr, e⟩, h2, h3, h4, h5, h6, h7⟩ := h
  have hA0 := B.cell (j := 1) rfl
  rw [hA] at hA0
  injection hA0 with hA0
  rw [← hA0] at e B
  rw [← e] at hg hat
  have hrg : (Value.slice A' (D.w.length + 1) c').ownBlock ≠ some g := by
    rcases hat with h | h <;> rw [h]
    · exact h4
    · intro e; injection e; omega
  have hrb : (Value.slice A' (D.w.length + 1) c').ownBlock ≠ some b := by
    rcases hat with h | h <;> rw [h]
    · exact h5
    · intro e; injection e; omega
  have el : ({ D with w := D.w ++ [x] } : Dk).w.length = D.w.length + 1 := by simp
  refine ⟨(Value.slice A' (D.w.length + 1) c').ownBlock, ⟨⟨A', c', ?_, ?_, by rw [el]⟩, (h2.kept hg h5).setOther 1 _ h3, h3, hrg, hrb, h6, h7⟩, ?_, ?_⟩
  · have := (B.kept hg h4).set 1 (.slice A' (D.w.length + 1) c')
    rw [el]
    simpa using this
  · rw [el]
    show World.ownsRow _ L _ 65 _ _ (wcs (D.w ++ [x]))
    rw [wcs_app, show wcs [x] = wcell x by simp [wcs]]
    exact row_apartD hr6 hrg [_] 1
  · exact (Turn3.of_grown hg).trans (Turn3.set w6 g b g 1 r _ (.inl rfl)) (RowN.refl _ _)
  · intro k hk
    rcases hat with h | h
    · rw [h] at hk; exact .inl hk
    · rw [h] at hk; injection hk with hk; exact .inr (by omega)

set_option maxRecDepth 100000 in
set_option maxHeartbeats 6400000 in
theorem write_any (L g b : Nat) (r : Option Nat) (D : Dk) (a : Int) (l : List UInt8) (w : World) (h : DkAt w L g b r D) (hf : -9223372036854775808 ≤ D.fuse ∧ D.fuse ≤ 9223372036854775807) (hl : l.length ≤ maxLen) (hw : D.w.length ≤ 65536) (hL : L ≤ w.heap.size) :
    Calls Try.prog 22 #[.pointer (some ⟨g, 0, none⟩), .int .i64 a, .string (str l)] w fun e w' => e = .returned (.int .i64 (dwrite D a l).2) ∧ ∃ r', DkAt w' L g b r' (dwrite D a l).1 ∧ Turn3 w w' g b r ∧ RowN w r r' := by
  have hu := Try.underlying86
  have HRD := Lib.hid (ready_any L g b r D w h)
  have HHS := Lib.hid (has_any L g b r D a w h)
  have hz := str_size l
  obtain ⟨n, hn⟩ : ∃ n, n = l.length := ⟨_, rfl⟩
  rw [← hn] at hz hl
  unfold maxLen at hl
  obtain ⟨sl, hsl⟩ : ∃ sl, sl = str l := ⟨_, rfl⟩
  rw [← hsl] at hz ⊢
  have HSL := Lib.hid hsl
  have HN := Lib.hid hn
  clear hsl hn
  cases hd : D.dead with
  | true =>
    have HR : Hid (dwrite D a l = (D, 15)) := Lib.hid (by unfold dwrite; rw [hd]; rfl)
    rw [hd] at HRD
    have HH := Lib.hid h
    clear h hd hz hl
    go_enter Try.func22, Try.ntmps22
    go_wp2_with fail
    refine HRD.out.mono ?_
    rintro e w1 ⟨rfl, rfl⟩
    go_wp2_with fail
    go_ret
    exact ⟨by rw [HR.out]; rfl, r, by rw [HR.out]; exact HH.out, Turn3.refl _ _ _ _, RowN.refl _ _⟩
  | false =>
    rw [hd] at HRD
    cases hs : dhas D a with
    | false =>
      have HR : Hid (dwrite D a l = (D, 1)) := Lib.hid (by unfold dwrite; rw [hd, hs]; simp)
      rw [hs] at HHS
      have HH := Lib.hid h
      clear h hd hs hz hl
      go_enter Try.func22, Try.ntmps22
      go_wp2_with fail
      refine HRD.out.mono ?_
      rintro e w1 ⟨rfl, rfl⟩
      go_wp2_with fail
      refine HHS.out.mono ?_
      rintro e w1 ⟨rfl, rfl⟩
      go_wp2_with fail
      go_ret
      exact ⟨by rw [HR.out]; rfl, r, by rw [HR.out]; exact HH.out, Turn3.refl _ _ _ _, RowN.refl _ _⟩
    | true =>
      rw [hs] at HHS
      by_cases h64 : n = 64
      · have HR : Hid (dwrite D a l = dstep { D with w := D.w ++ [(a, b64 l)] }) := Lib.hid (by unfold dwrite; rw [hd, hs, ← HN.out, if_neg (by simp), if_pos ⟨rfl, h64⟩])
        subst h64
        obtain ⟨A, c, h0, h1, h2, h3, hrow, hre, hfz⟩ := h.cells
        obtain ⟨i1, ji, jz0, jz1, jz2⟩ := info_wrid
        have HI := Lib.hid (And.intro ji (And.intro jz0 (And.intro jz1 jz2)))
        obtain ⟨x, hx⟩ : ∃ x : Wr, x = (a, b64 l) := ⟨_, rfl⟩
        rw [← hx] at HR
        obtain ⟨zc, hzc⟩ : ∃ zc, zc = wcell (0, z64) := ⟨_, rfl⟩
        obtain ⟨zw, hzw⟩ : ∃ zw, zw = wcell (a, z64) := ⟨_, rfl⟩
        have HZA : Hid (∀ wx : World, (Instr.alloc 86 true (.tuple #[])).run Try.prog wx = .ok (.pointer (some ⟨wx.heap.size, 0, none⟩)) (wx.alloc (.cells zc.toArray 86))) := Lib.hid (fun wx => by rw [hzc]; exact zero_wr wx)
        have HZB : Hid (∀ wx : World, (Instr.build 86 #[(0, .int .i64 a)]).run Try.prog wx = .ok (.agg zw.toArray) wx) := Lib.hid (fun wx => by rw [hzw]; exact run_wrb a wx)
        have hzl : zw.length = zc.length := by rw [hzw, hzc, wcell_len, wcell_len]
        have hz65 : zw.length = 65 := by rw [hzw, wcell_len]
        have ON1 := all_oneCell_toArray (wcell_one (a, z64))
        have HON : Hid ((zw.toArray.all (·.oneCell')) = true) := Lib.hid (by rw [hzw]; exact ON1)
        have IN1 : (Try.prog.info? 86).map (·.size) = some zw.toArray.size := by rw [(List.size_toArray).trans hz65]; exact info_wri
        have BN := Blk.new w zc 86
        have HB1 := (Below.refl w.heap.size w).alloc (Nat.le_refl _) (.cells zc.toArray 86)
        have TH : (w.alloc (.cells zc.toArray 86)).there w.heap.size 0 zw.toArray.size := by
          rw [show zw.toArray.size = zc.length from (List.size_toArray).trans hzl]
          exact BN.there 0 _ (by omega)
        have B2 := BN.sets zw 0 (by omega)
        rw [show zc.take 0 ++ zw ++ zc.drop (0 + zw.length) = zw by rw [Nat.zero_add, List.drop_eq_nil_of_le (by omega)]; simp] at B2
        obtain ⟨W2, hW2⟩ : ∃ W2, W2 = (w.alloc (.cells zc.toArray 86)).setCells w.heap.size 0 zw := ⟨_, rfl⟩
        rw [← hW2] at B2
        have L2 : Below w.heap.size w W2 := by rw [hW2]; exact below_sets (Nat.le_refl _) zw 0 HB1
        have HCP : Hid ((Builtin.copy_ #[62, 9] 3 #[.slice (some ⟨w.heap.size, 1, none⟩) 64 64, .string sl]).run Try.prog W2 = .ok (goInt sl.size) (W2.setCells w.heap.size 1 (bvs l))) := Lib.hid (by
          have := Go.run_copy_string (P := Try.prog) (ty := 3) W2 62 9 5 w.heap.size 1 64 64 sl Try.underlying62 (fun w => by kernel_rfl) (by omega)
            (fun j hj => by rw [B2.cell (List.getElem?_eq_getElem (show 1 + j < zw.length by omega))]; rfl) (fun j hj => B2.frozen _)
          rw [this, HSL.out]
          rfl)
        have B3 := B2.sets (bvs l) 1 (by rw [bvs_length, ← HN.out]; omega)
        have hxc : zw.take 1 ++ bvs l ++ zw.drop (1 + (bvs l).length) = wcell x := by
          rw [List.drop_eq_nil_of_le (by rw [bvs_length, ← HN.out]; omega), hzw, hx]
          show [_] ++ bvs l ++ [] = _ :: bvs (b64 l).1
          rw [b64_val HN.out.symm]
          simp
        rw [hxc] at B3
        obtain ⟨W3, hW3⟩ : ∃ W3, W3 = W2.setCells w.heap.size 1 (bvs l) := ⟨_, rfl⟩
        rw [← hW3] at B3 HCP
        have L3 : Below w.heap.size w W3 := by rw [hW3]; exact below_sets (Nat.le_refl _) _ _ L2
        have H3 := Lib.hid (h.later L3)
        have HL3 := Lib.hid L3
        obtain ⟨xc, hxcc⟩ : ∃ xc, xc = wcell x := ⟨_, rfl⟩
        have HXC := Lib.hid hxcc
        have HXL : Hid (xc.length = 65) := Lib.hid (by rw [hxcc, wcell_len])
        rw [← hxcc] at B3
        have HW2 := Lib.hid hW2
        have BX := B3
        have c1 : ∀ kk : LW W3, kk.val.cell? ⟨g, 1, none⟩ = some (.slice A D.w.length c) := fun kk => (L3.trans (kk.le.mono L3.size)).cell (p := ⟨g, 1, none⟩) h.lt.1 |>.trans h1
        have HX := Lib.hid hx
        have HD : Hid (D.w.length ≤ 65536) := Lib.hid hw
        have HFU : Hid (-9223372036854775808 ≤ D.fuse ∧ D.fuse ≤ 9223372036854775807) := Lib.hid hf
        have HL0 := Lib.hid hL
        have hn0 : ((64 : Nat) : Int) = 64 := rfl
        have hgl := h.lt.1
        have hrow0 := hrow
        clear h hd hs hl hzc hzw hzl hz65 BN B2 B3 hW2 hW3 hxc hxcc hx L2 L3 h0 h1 h2 h3 hrow hre hfz ji jz0 jz1 jz2 ON1 HB1 hw hf hL
        go_enter Try.func22, Try.ntmps22
        go_wp2_with fail
        refine HRD.out.mono ?_
        rintro e w1 ⟨rfl, rfl⟩
        go_wp2_with fail
        refine HHS.out.mono ?_
        rintro e w1 ⟨rfl, rfl⟩
        go_wp2_with (first
          | (refine wpList_exec (by rfl) (.agg zw.toArray) (exec_build 86 (.tmp 23) rfl (.int .i64 a) (.agg zw.toArray) rfl (HZB.out _)) ?_)
          | (refine wpList_new rfl 86 rfl zc (HZA.out _) ?_)
          | (refine wpList_store_mid rfl 86 (.tmp 8) (.tmp 24) rfl w.heap.size 0 zw.toArray rfl rfl TH IN1 HON.out ?_
             simp only [Act.put]
             generalize hw6 : World.setCells _ w.heap.size 0 zw.toArray.toList = w6
             have e6 : w6 = W2 := hw6.symm.trans HW2.out.symm
             subst e6
             clear hw6 TH)
          | fail)
        rw [HCP.out]
        simp only [Result.andThen]
        rw [Oper.upon_value]
        simp only [Act.put, List.setIfInBounds_toArray, List.set_cons_zero, List.set_cons_succ]
        go_wp2_with fail
        have hA3 := c1 ⟨W3, Le.refl W3⟩
        have HAX : Hid (∀ X, Below W3.heap.size W3 X → X.cell? ⟨g, 1, none⟩ = some (.slice A D.w.length c) ∧ X.ownsRow L 86 65 (.slice A D.w.length c) D.w.length (wcs D.w) ∧ DkAt X L g b r D) := Lib.hid (fun X hl => by
          have H5 := H3.out.later hl
          have HA5 := c1 ⟨X, hl⟩
          refine ⟨HA5, ?_, H5⟩
          obtain ⟨A0, c0, _, k1, _, _, hr0, _⟩ := H5.cells
          rw [HA5] at k1
          injection k1 with k1
          rw [k1]
          exact hr0)
        have hwz : w.heap.size ≤ W3.heap.size := HL3.out.size
        have HSE : Hid (∀ X, Blk X W3.heap.size xc → Sees X X.heap.size (some ⟨W3.heap.size, 0, none⟩) xc) := Lib.hid (fun X hB _ => ⟨W3.heap.size, 0, rfl, hB.lt, fun j hj => by rw [Nat.zero_add]; exact hB.cell (List.getElem?_eq_getElem hj)⟩)
        have HON6 : Hid (∀ u ∈ xc, u.oneCell' = true) := Lib.hid (by rw [HXC.out]; exact wcell_one x)
        have HZ65 : Hid ((Value.agg (wcell (0, z64)).toArray).cells.size = 65) := Lib.hid (by simp [Value.cells, wcell_len])
        have HR1 : Hid (∀ wx : World, (Instr.buildSlice 78 1 #[(0, .agg xc.toArray)]).run Try.prog wx = .ok (.slice (some ⟨wx.heap.size, 0, none⟩) 1 1) (wx.alloc (.cells xc.toArray 86))) := Lib.hid (fun wx => by rw [HXC.out]; exact run_wr1 x.1 x.2 wx)
        have HPU : Hid (∀ X w6 A3 c3, Below W3.heap.size W3 X → X.grownBy w6 (Value.slice A D.w.length c).ownBlock → w6.ownsRow L 86 65 (.slice A3 (D.w.length + 1) c3) (D.w.length + 1) (wcs D.w ++ xc) → ((Value.slice A3 (D.w.length + 1) c3).ownBlock = (Value.slice A D.w.length c).ownBlock ∨ (Value.slice A3 (D.w.length + 1) c3).ownBlock = some X.heap.size) →
            ∃ r', DkAt (w6.setCell ⟨g, 1, none⟩ (.slice A3 (D.w.length + 1) c3)) L g b r' { D with w := D.w ++ [x] } ∧ Turn3 w (w6.setCell ⟨g, 1, none⟩ (.slice A3 (D.w.length + 1) c3)) g b r ∧ RowN w r r') := Lib.hid (fun X w6 A3 c3 hl hg6 hr6 hat6 => by
          obtain ⟨HA5, _, H5⟩ := HAX.out X hl
          rw [HXC.out] at hr6
          obtain ⟨r', H7, T7, R7⟩ := DkAt.push H5 x HA5 hg6 hr6 hat6
          refine ⟨r', H7, ((Turn3.of_below (HL3.out.trans (hl.mono HL3.out.size)) g b r).trans T7 (RowN.refl _ _)), fun k hk => ?_⟩
          rcases R7 k hk with h | h
          · exact .inl h
          · exact .inr (Nat.le_trans hwz (Nat.le_trans hl.size h)))
        have HFC : Hid (∀ X w6, Below W3.heap.size W3 X → X.grownBy w6 (Value.slice A D.w.length c).ownBlock → w6.frozen? ⟨g, 1, none⟩ = false ∧ w6.cell? ⟨g, 1, none⟩ = some (.slice A D.w.length c)) := Lib.hid (fun X w6 hl hg6 => by
          obtain ⟨HA5, _, H5⟩ := HAX.out X hl
          have hne : (Value.slice A D.w.length c).ownBlock ≠ some g := by
            obtain ⟨A1, c1', _, k1, _, _, _, hre, _⟩ := H5.cells
            rw [HA5] at k1
            injection k1 with k1
            rw [k1, ← hre]
            exact H5.rg
          obtain ⟨A0, c0, B0, _⟩ := H5.at_
          have hB := B0.kept hg6 hne
          have hc := B0.cell (j := 1) rfl
          rw [HA5] at hc
          exact ⟨hB.frozen 1, (hB.cell (j := 1) rfl).trans hc.symm⟩)
        have hd63 : D.w.length + 1 ≤ maxLen := by have := HD.out; unfold maxLen; omega
        have hd64 : (D.w.length + 1) * 72 ≤ 140737488355328 := by have := HD.out; omega
        have HD63 := Lib.hid hd63
        have HD64 := Lib.hid hd64
        have HLW : Hid (L ≤ W3.heap.size) := Lib.hid (Nat.le_trans HL0.out hwz)
        obtain ⟨dn, hdn⟩ : ∃ dn, dn = D.w.length := ⟨_, rfl⟩
        rw [← hdn] at hA3 HAX HPU HFC HD63 HD64 hrow0
        have H0R := Lib.hid (And.intro hrow0 True.intro)
        clear c1 hd63 hd64 hdn HD
        obtain ⟨wd, hwd⟩ : ∃ wd, wd = W3.drew := ⟨_, rfl⟩
        have HLD : Hid (Below W3.heap.size W3 wd) := Lib.hid (by rw [hwd]; exact (Below.refl W3.heap.size W3).drew)
        have HWS : Hid (wd.heap.size = W3.heap.size) := Lib.hid (by rw [hwd]; rfl)
        obtain ⟨X, hX⟩ : ∃ X, X = wd.alloc (.cells xc.toArray 86) := ⟨_, rfl⟩
        have HLX : Hid (Below W3.heap.size W3 X) := Lib.hid (by rw [hX]; exact HLD.out.trans ((Below.refl wd.heap.size wd).alloc (Nat.le_refl _) _ |>.mono HLD.out.size))
        have HBX : Hid (Blk X W3.heap.size xc) := Lib.hid (by rw [hX, ← HWS.out]; exact Blk.new wd xc _)
        have HRG : Hid (∀ Y, Below W3.heap.size W3 Y → Y.rangeAt w.heap.size 0 xc) := Lib.hid (fun Y hY => (BX.later hY).range 0 xc (by rw [List.drop_zero, List.take_length]))
        have HSX : Hid (X.rangeAt w.heap.size 0 xc) := Lib.hid (HRG.out X HLX.out)
        have HOB : Hid ((Value.slice A dn c).ownBlock ≠ some w.heap.size) := Lib.hid (by
          intro e
          rcases (H0R.out.1).lt _ e with ⟨_, h2⟩
          exact absurd h2 (Nat.lt_irrefl _))
        have HS6 : Hid (∀ w6, X.grownBy w6 (Value.slice A dn c).ownBlock → w6.rangeAt w.heap.size 0 xc) := Lib.hid (fun w6 hg => ((BX.later HLX.out).kept hg HOB.out).range 0 xc (by rw [List.drop_zero, List.take_length]))
        have HS7 : Hid (∀ w6 A3 c3, X.grownBy w6 (Value.slice A dn c).ownBlock → (w6.setCell ⟨g, 1, none⟩ (.slice A3 (dn + 1) c3)).rangeAt w.heap.size 0 xc) := Lib.hid (fun w6 A3 c3 hg => (((BX.later HLX.out).kept hg HOB.out).setOther (b := g) 1 _ (by omega)).range 0 xc (by rw [List.drop_zero, List.take_length]))
        have hS : wd.rangeAt w.heap.size 0 xc := HRG.out wd HLD.out
        have hA4 := (HAX.out wd HLD.out).1
        have hA5 := (HAX.out X HLX.out).1
        have HX := Lib.hid hX
        clear BX
        refine wp_region_held (S := fun wx => wx.rangeAt w.heap.size 0 xc) (by kernel_rfl) ?_
        show Go.wpAnyH Try.prog Region.Mode.any _ _ _ _ _ _ W3.drew
        rw [← hwd]
        refine takeH (i := 0) (oi := _) (v := (.pointer (some ⟨g, 0, none⟩))) (fuel := 10) (some 29) rfl rfl (by kernel_rfl) (by kernel_rfl) (by kernel_rfl) (fun _ _ _ h => h) (.inl ⟨by rfl, fun wx hS => by simp [go_sem]⟩) hS ?_
        simp only [Act.put, List.setIfInBounds_toArray, List.set_cons_zero, List.set_cons_succ]
        refine takeH (i := 1) (oi := _) (v := (.pointer (some ⟨g, 0, none⟩))) (fuel := 9) (some 30) rfl rfl (by kernel_rfl) (by kernel_rfl) (by kernel_rfl) (fun _ _ _ h => h) (.inl ⟨by rfl, fun wx hS => by simp [go_sem]⟩) hS ?_
        simp only [Act.put, List.setIfInBounds_toArray, List.set_cons_zero, List.set_cons_succ]
        refine takeH (i := 2) (oi := _) (v := (.pointer (some ⟨g, 0, none⟩))) (fuel := 8) (some 31) rfl rfl (by kernel_rfl) (by kernel_rfl) (by kernel_rfl) (fun _ _ _ h => h) (.inl ⟨by rfl, fun wx hS => by simp [go_sem]⟩) hS ?_
        simp only [Act.put, List.setIfInBounds_toArray, List.set_cons_zero, List.set_cons_succ]
        refine takeH (i := 3) (oi := _) (v := (.pointer (some ⟨g, 1, none⟩))) (fuel := 7) (some 32) rfl rfl (by kernel_rfl) (by kernel_rfl) (by kernel_rfl) (fun _ _ _ h => h) (.inl ⟨by rfl, fun wx hS => by simp [go_sem]⟩) hS ?_
        simp only [Act.put, List.setIfInBounds_toArray, List.set_cons_zero, List.set_cons_succ]
        refine takeH (i := 5) (oi := _) (v := (.agg xc.toArray)) (fuel := 6) (some 34) rfl rfl (by kernel_rfl) (by kernel_rfl) (by kernel_rfl) (fun _ _ _ h => h) (yieldsIf_load_mid (by rfl) 86 (.tmp 8) rfl w.heap.size 0 rfl xc _ (fun wx hS => hS) hu rfl (by rw [HXL.out]; exact info_wri)) hS ?_
        simp only [Act.put, List.setIfInBounds_toArray, List.set_cons_zero, List.set_cons_succ]
        refine wpAnyH_all (fuel := 5) (rs := [4, 6]) (by kernel_rfl) (by simp) (fun i hi => ?_)
        simp only [List.mem_cons, List.not_mem_nil, or_false] at hi
        rcases hi with rfl | rfl
        · refine runH (some 33) _ rfl rfl (by rfl) (.slice A dn c) (by simp [go_sem, hA4]) ⟨hS, ?_⟩
          simp only [Act.put, List.setIfInBounds_toArray, List.set_cons_zero, List.set_cons_succ]
          refine allH [6] 6 (fuel := 4) (by kernel_rfl) ?_
          refine runH (some 35) _ rfl rfl (by rfl) (.slice (some ⟨W3.heap.size, 0, none⟩) 1 1) (exec_lit 78 (.tmp 34) rfl (.agg xc.toArray) _ rfl ((HR1.out wd).trans (by rw [HWS.out, ← HX.out]))) ⟨HSX.out, ?_⟩
          simp only [Act.put, List.setIfInBounds_toArray, List.set_cons_zero, List.set_cons_succ]
          have hS := HSX.out
          refine allH [7] 7 (fuel := 3) (by kernel_rfl) ?_
          refine appH (some 36) _ rfl rfl (by rfl) (.tmp 33) (.tmp 35) 78 rfl L 86 i1 _ 65 72 Try.underlying78 HI.out.1 HI.out.2.1 HI.out.2.2.1 HI.out.2.2.2 HZ65.out (by decide) (.slice A dn c) dn (wcs D.w) (by rfl) (HAX.out X HLX.out).2.1 X.heap.size (some ⟨W3.heap.size, 0, none⟩) 1 xc 1 (by rfl) (by rw [HXL.out]) (HSE.out X HBX.out) HON6.out HD63.out HD64.out (Nat.le_trans HLW.out HLX.out.size) ?_
          intro A3 c3 w6 hr6 hb6 hg6 hat6
          obtain ⟨r', H7, T7, R7⟩ := HPU.out X w6 A3 c3 HLX.out hg6 hr6 hat6
          obtain ⟨fz, cz⟩ := HFC.out X w6 HLX.out hg6
          have hS6 := HS6.out w6 hg6
          have hS7 := HS7.out w6 A3 c3 hg6
          clear hr6 hb6 hg6 hat6 hS
          have hS := hS6
          refine ⟨hS, ?_⟩
          simp only [Act.put, List.setIfInBounds_toArray, List.set_cons_zero, List.set_cons_succ]
          refine takeH (i := 8) (oi := _) (v := (.pointer (some ⟨g, 0, none⟩))) (fuel := 2) (some 37) rfl rfl (by kernel_rfl) (by kernel_rfl) (by kernel_rfl) (fun _ _ _ h => h) (.inl ⟨by rfl, fun wx hS => by simp [go_sem]⟩) hS ?_
          simp only [Act.put, List.setIfInBounds_toArray, List.set_cons_zero, List.set_cons_succ]
          refine takeH (i := 9) (oi := _) (v := (.pointer (some ⟨g, 1, none⟩))) (fuel := 1) (some 38) rfl rfl (by kernel_rfl) (by kernel_rfl) (by kernel_rfl) (fun _ _ _ h => h) (.inl ⟨by rfl, fun wx hS => by simp [go_sem]⟩) hS ?_
          simp only [Act.put, List.setIfInBounds_toArray, List.set_cons_zero, List.set_cons_succ]
          refine allH [10] 10 (fuel := 0) (by kernel_rfl) ?_
          refine store1H _ rfl rfl (by rfl) 78 (.tmp 38) (.tmp 36) rfl g 1 _ (.slice A3 (dn + 1) c3) rfl rfl (fun w => by kernel_rfl) (fun cs => by simp) rfl cz fz ⟨hS7, ?_⟩
          refine wpAnyH_done (by kernel_rfl) ?_ 0
          have H7 := Lib.hid H7
          have T7 := Lib.hid T7
          have R7 := Lib.hid R7
          have HFZ := Lib.hid (dkstep_any L g b r' { D with w := D.w ++ [x] } _ H7.out HFU.out)
          clear fz cz hS hS6 hS7
          go_wp2_with fail
          refine HFZ.out.mono ?_
          rintro e w8 ⟨rfl, H8, T8⟩
          have H8 := Lib.hid H8
          have T8 := Lib.hid (T7.out.trans T8 R7.out)
          clear HFZ
          go_wp2_with fail
          go_ret
          exact ⟨by rw [HR.out]; rfl, r', by rw [HR.out]; exact H8.out, T8.out, R7.out⟩
        · refine runH (some 35) _ rfl rfl (by rfl) (.slice (some ⟨W3.heap.size, 0, none⟩) 1 1) (exec_lit 78 (.tmp 34) rfl (.agg xc.toArray) _ rfl ((HR1.out wd).trans (by rw [HWS.out, ← HX.out]))) ⟨HSX.out, ?_⟩
          simp only [Act.put, List.setIfInBounds_toArray, List.set_cons_zero, List.set_cons_succ]
          have hS := HSX.out
          refine allH [4] 4 (fuel := 4) (by kernel_rfl) ?_
          refine runH (some 33) _ rfl rfl (by rfl) (.slice A dn c) (by simp [go_sem, hA5]) ⟨hS, ?_⟩
          simp only [Act.put, List.setIfInBounds_toArray, List.set_cons_zero, List.set_cons_succ]
          refine allH [7] 7 (fuel := 3) (by kernel_rfl) ?_
          refine appH (some 36) _ rfl rfl (by rfl) (.tmp 33) (.tmp 35) 78 rfl L 86 i1 _ 65 72 Try.underlying78 HI.out.1 HI.out.2.1 HI.out.2.2.1 HI.out.2.2.2 HZ65.out (by decide) (.slice A dn c) dn (wcs D.w) (by rfl) (HAX.out X HLX.out).2.1 X.heap.size (some ⟨W3.heap.size, 0, none⟩) 1 xc 1 (by rfl) (by rw [HXL.out]) (HSE.out X HBX.out) HON6.out HD63.out HD64.out (Nat.le_trans HLW.out HLX.out.size) ?_
          intro A3 c3 w6 hr6 hb6 hg6 hat6
          obtain ⟨r', H7, T7, R7⟩ := HPU.out X w6 A3 c3 HLX.out hg6 hr6 hat6
          obtain ⟨fz, cz⟩ := HFC.out X w6 HLX.out hg6
          have hS6 := HS6.out w6 hg6
          have hS7 := HS7.out w6 A3 c3 hg6
          clear hr6 hb6 hg6 hat6 hS
          have hS := hS6
          refine ⟨hS, ?_⟩
          simp only [Act.put, List.setIfInBounds_toArray, List.set_cons_zero, List.set_cons_succ]
          refine takeH (i := 8) (oi := _) (v := (.pointer (some ⟨g, 0, none⟩))) (fuel := 2) (some 37) rfl rfl (by kernel_rfl) (by kernel_rfl) (by kernel_rfl) (fun _ _ _ h => h) (.inl ⟨by rfl, fun wx hS => by simp [go_sem]⟩) hS ?_
          simp only [Act.put, List.setIfInBounds_toArray, List.set_cons_zero, List.set_cons_succ]
          refine takeH (i := 9) (oi := _) (v := (.pointer (some ⟨g, 1, none⟩))) (fuel := 1) (some 38) rfl rfl (by kernel_rfl) (by kernel_rfl) (by kernel_rfl) (fun _ _ _ h => h) (.inl ⟨by rfl, fun wx hS => by simp [go_sem]⟩) hS ?_
          simp only [Act.put, List.setIfInBounds_toArray, List.set_cons_zero, List.set_cons_succ]
          refine allH [10] 10 (fuel := 0) (by kernel_rfl) ?_
          refine store1H _ rfl rfl (by rfl) 78 (.tmp 38) (.tmp 36) rfl g 1 _ (.slice A3 (dn + 1) c3) rfl rfl (fun w => by kernel_rfl) (fun cs => by simp) rfl cz fz ⟨hS7, ?_⟩
          refine wpAnyH_done (by kernel_rfl) ?_ 0
          have H7 := Lib.hid H7
          have T7 := Lib.hid T7
          have R7 := Lib.hid R7
          have HFZ := Lib.hid (dkstep_any L g b r' { D with w := D.w ++ [x] } _ H7.out HFU.out)
          clear fz cz hS hS6 hS7
          go_wp2_with fail
          refine HFZ.out.mono ?_
          rintro e w8 ⟨rfl, H8, T8⟩
          have H8 := Lib.hid H8
          have T8 := Lib.hid (T7.out.trans T8 R7.out)
          clear HFZ
          go_wp2_with fail
          go_ret
          exact ⟨by rw [HR.out]; rfl, r', by rw [HR.out]; exact H8.out, T8.out, R7.out⟩
      · have HR : Hid (dwrite D a l = (D, 1)) := Lib.hid (by unfold dwrite; rw [hd, hs, ← HN.out, if_neg (by simp), if_neg (fun h => h64 h.2)])
        have n64 : ((n : Int) != 64) = true := by rw [bne_iff_ne]; omega
        have HH := Lib.hid h
        clear h hd hs h64
        go_enter Try.func22, Try.ntmps22
        go_wp2_with fail
        refine HRD.out.mono ?_
        rintro e w1 ⟨rfl, rfl⟩
        go_wp2_with fail
        refine HHS.out.mono ?_
        rintro e w1 ⟨rfl, rfl⟩
        go_wp2_with fail
        go_ret
        exact ⟨by rw [HR.out]; rfl, r, by rw [HR.out]; exact HH.out, Turn3.refl _ _ _ _, RowN.refl _ _⟩
end Go.Proofs.Ytncbhpopobjaiaa

/- Rows of structs, whatever a struct's cells are: what lies there, and what the frame gives of such a slice. -/
namespace Go.Proofs.Ytncbhpopobjaiaa
set_option linter.unusedVariables false
open Go Go.RowKit Go.Deep Go.ChangeShapes Go.WideShapes Go.ChangeAt

section
variable {α : Type} {f : α → List Value} {sz : Nat}
/-- The cells of a list of structs, one behind the other. -/
def rws (f : α → List Value) (l : List α) : List Value := l.flatMap f
theorem rws_nil (f : α → List Value) : rws f [] = [] := rfl
theorem rws_cons (f : α → List Value) (x : α) (l : List α) : rws f (x :: l) = f x ++ rws f l := rfl
theorem rws_one (f : α → List Value) (x : α) : rws f [x] = f x := by simp [rws]
theorem rws_append (f : α → List Value) (l m : List α) : rws f (l ++ m) = rws f l ++ rws f m := by simp [rws]
theorem rws_len : ∀ l : List α, (∀ x ∈ l, (f x).length = sz) → (rws f l).length = l.length * sz
  | [], _ => by simp [rws]
  | x :: l, h => by
    rw [rws_cons, List.length_append, rws_len l (fun y hy => h y (List.mem_cons_of_mem _ hy)), h x List.mem_cons_self, List.length_cons, Nat.succ_mul]
    omega
theorem rws_drop : ∀ (l : List α) (k : Nat), (∀ x ∈ l, (f x).length = sz) → (rws f l).drop (k * sz) = rws f (l.drop k)
  | [], k, _ => by simp [rws]
  | x :: l, 0, _ => by simp
  | x :: l, k + 1, h => by
    have hx := h x List.mem_cons_self
    rw [rws_cons, List.drop_succ_cons, ← rws_drop l k (fun y hy => h y (List.mem_cons_of_mem _ hy)), show (k + 1) * sz = (f x).length + k * sz by rw [hx, Nat.succ_mul]; omega, List.drop_length_add_append]
theorem rws_take : ∀ (l : List α) (k : Nat), (∀ x ∈ l, (f x).length = sz) → (rws f l).take (k * sz) = rws f (l.take k)
  | [], k, _ => by simp [rws]
  | x :: l, 0, _ => by simp [rws]
  | x :: l, k + 1, h => by
    have hx := h x List.mem_cons_self
    rw [rws_cons, List.take_succ_cons, rws_cons, ← rws_take l k (fun y hy => h y (List.mem_cons_of_mem _ hy)), show (k + 1) * sz = (f x).length + k * sz by rw [hx, Nat.succ_mul]; omega, List.take_length_add_append]
theorem rws_at (l : List α) (hf : ∀ x ∈ l, (f x).length = sz) (k : Nat) (hk : k < l.length) (j : Nat) (v : Value) (hj : (f l[k])[j]? = some v) : (rws f l)[k * sz + j]? = some v := by
  have h1 : ((rws f l).drop (k * sz))[j]? = some v := by
    rw [rws_drop l k hf, List.drop_eq_getElem_cons hk, rws_cons]
    rw [List.getElem?_append_left (List.getElem?_eq_some_iff.1 hj).1]
    exact hj
  rw [List.getElem?_drop] at h1
  exact h1
theorem rws_get (l : List α) (hf : ∀ x ∈ l, (f x).length = sz) (k : Nat) (hk : k < l.length) : ((rws f l).drop (k * sz)).take sz = f l[k] := by
  have := hf _ (List.getElem_mem hk)
  rw [rws_drop l k hf, List.drop_eq_getElem_cons hk, rws_cons, List.take_append_of_le_length (by omega), List.take_of_length_le (by omega)]
theorem rws_mem {l : List α} {v : Value} (h : v ∈ rws f l) : ∃ x ∈ l, v ∈ f x := by
  simpa [rws] using h
theorem rws_all {l : List α} {P : Value → Prop} (h : ∀ x ∈ l, ∀ u ∈ f x, P u) : ∀ u ∈ rws f l, P u := fun u hu => by
  obtain ⟨x, hx, hu⟩ := rws_mem hu
  exact h x hx u hu
/-- An element of a row that is seen. -/
theorem sees_rw {w : World} {B : Nat} {A : Option Addr} {l : List α} (hf : ∀ x ∈ l, (f x).length = sz) (hs : Sees w B A (rws f l)) (hz : 0 < sz) (k : Nat) (hk : k < l.length) :
    ∃ b o, A = some ⟨b, o, none⟩ ∧ b < B ∧ w.rangeAt b (o + k * sz) (f l[k]) := by
  obtain ⟨b, o, e, hb, hc⟩ := hs (by rw [rws_len l hf]; exact Nat.mul_pos (by omega) hz)
  refine ⟨b, o, e, hb, fun j v hj => ?_⟩
  have h1 := rws_at l hf k hk j v hj
  obtain ⟨h2, h3⟩ := List.getElem?_eq_some_iff.1 h1
  have := hc (k * sz + j) h2
  rw [h3] at this
  rw [Nat.add_assoc]
  exact this
end

section
variable {H : Type} {enc : TypeId × Value → H} {W : World} {P : Program} {α : Type} [Inhabited α]
/-- What the frame gives of a slice of structs. -/
theorem open_rows {f : α → List Value} {sz : Nat} {ok : α → Prop} {t et : TypeId} (ht : P.underlying t = some (.slice et)) (hC : P.cellsOf et = sz) (hz : 0 < sz) (hf : ∀ z, ok z → (f z).length = sz)
    (hel : ∀ (n : Nat) (cs : List Value) (x : DataW H × List MemPlace), DataW.trod enc P W 0 (fun _ => true) true n et cs = some x → ∃ z, cs = f z ∧ ok z)
    {r : Reach} {base : Nat} {v : Value} {d : DataW H} {ps : List MemPlace}
    (hv : Value.okWide P W r base t v) (h : DataW.Trod enc P W 0 (fun _ => true) true t v d ps) :
    ∃ A n c, ∃ l : List α, v = .slice A n c ∧ n ≤ c ∧ c ≤ maxLen ∧ l.length = n ∧ (∀ z ∈ l, ok z) ∧ Sees W W.heap.size A (rws f l) := by
  obtain ⟨A, n, c, rfl⟩ := okWide_slice ht hv
  obtain ⟨fuel, hf0⟩ := h
  have hlt := DataW.trod_lt fuel _ _ _ hf0
  rcases open_slice ht hf0 with ⟨hcs, hx⟩ | ⟨x, n, c, m, fu, D, Pl, hcs, hb, hl, hm, hmm, hx, hcell⟩
  · simp [Value.cells] at hcs
    obtain ⟨rfl, rfl, rfl⟩ := hcs
    exact ⟨none, 0, 0, [], rfl, Nat.le_refl _, by simp [maxLen], rfl, by simp, Sees.nil_⟩
  · simp [Value.cells] at hcs
    obtain ⟨rfl, rfl, rfl⟩ := hcs
    simp only [if_true] at hmm
    subst hmm
    have each : ∀ i, i < n → ∃ z : α, (∀ j u, (f z)[j]? = some u → W.cell? (x.add (i * sz + j)) = some u) ∧ ok z := fun i hi => by
      obtain ⟨cs', h1, h2⟩ := hcell i (by omega)
      obtain ⟨z, rfl, okz⟩ := hel _ _ _ h2
      refine ⟨z, fun j u hj => ?_, okz⟩
      rw [hC] at h1
      obtain ⟨_, hlen, hc⟩ := World.cells?_some h1
      have hj5 : j < sz := by
        have := (List.getElem?_eq_some_iff.1 hj).1
        rwa [hf z okz] at this
      have e1 := hc j hj5
      rw [add_add] at e1
      rw [e1, hj]
    obtain ⟨g, hg⟩ := choose_lt (α := α) each
    have hlen : ((List.range n).map g).length = n := by simp
    have hok : ∀ z ∈ (List.range n).map g, ok z := fun z hz => by
      obtain ⟨i, hi, rfl⟩ := List.mem_map.1 hz
      exact (hg i (List.mem_range.1 hi)).2
    have hsz : ∀ z ∈ (List.range n).map g, (f z).length = sz := fun z hz => hf z (hok z hz)
    have hrl := rws_len _ hsz
    refine ⟨some x, n, m, (List.range n).map g, rfl, hl, hm, hlen, hok, fun hpos => ?_⟩
    rw [hrl, hlen] at hpos
    have hn0 : 0 < n := by
      rcases Nat.eq_zero_or_pos n with h0 | h0
      · rw [h0, Nat.zero_mul] at hpos; omega
      · exact h0
    have hfz : ∀ i (hi : i < n), (f (g i)).length = sz := fun i hi => hf _ (hg i hi).2
    have h0 := (hg 0 hn0).1 0 _ (List.getElem?_eq_getElem (by rw [hfz 0 hn0]; exact hz))
    obtain ⟨b, off, spot⟩ := x
    have hspot : spot = none := by simpa [Addr.add] using World.cell?_spot h0
    subst hspot
    refine ⟨b, off, rfl, ?_, fun j hj => ?_⟩
    · simp only [Prod.mk.injEq] at hx
      obtain ⟨_, rfl⟩ := hx
      have := hlt (.cell b off) (by simp [MemPlace.row, hC]; exact .inl (Nat.mul_pos (Nat.lt_of_lt_of_le hn0 hl) hz))
      simpa [MemPlace.block] using this
    · have hj2 := hj
      rw [hrl, hlen] at hj2
      have hjd : j / sz < n := Nat.div_lt_of_lt_mul (by rw [Nat.mul_comm]; exact hj2)
      have hjm : j % sz < sz := Nat.mod_lt _ hz
      have hjs : j / sz * sz + j % sz = j := by rw [Nat.mul_comm]; exact Nat.div_add_mod j sz
      have hk : j / sz < ((List.range n).map g).length := by rw [hlen]; exact hjd
      have e3 : ((List.range n).map g)[j / sz] = g (j / sz) := by simp
      have hjz : j % sz < (f (g (j / sz))).length := by rw [hfz _ hjd]; exact hjm
      have h3 : (f ((List.range n).map g)[j / sz])[j % sz]? = some ((f (g (j / sz)))[j % sz]'hjz) := by
        rw [e3]
        exact List.getElem?_eq_getElem hjz
      have h4 := rws_at _ hsz (j / sz) hk (j % sz) _ h3
      rw [hjs, List.getElem?_eq_getElem hj] at h4
      have h5 := (hg (j / sz) hjd).1 (j % sz) _ (List.getElem?_eq_getElem hjz)
      rw [hjs, add_at] at h5
      rw [h5]
      exact h4.symm
theorem trod_struct5 {w : World} {base : Nat} {spare : Nat → Bool} {held : Bool} {t : TypeId} {f0 f1 f2 f3 f4 : Field} {fuel : Nat} {cs : List Value} {x : DataW H × List MemPlace} (ht : P.underlying t = some (.struct #[f0, f1, f2, f3, f4])) (h : DataW.trod enc P w base spare held fuel t cs = some x) :
    ∃ y0 y1 y2 y3 y4 n, x = (.agg [y0.1, y1.1, y2.1, y3.1, y4.1], y0.2 ++ (y1.2 ++ (y2.2 ++ (y3.2 ++ y4.2)))) ∧ cs.length = P.cellsOf t ∧ DataW.trod enc P w base spare held n f0.type ((cs.drop f0.offset).take (P.cellsOf f0.type)) = some y0 ∧
      DataW.trod enc P w base spare held n f1.type ((cs.drop f1.offset).take (P.cellsOf f1.type)) = some y1 ∧ DataW.trod enc P w base spare held n f2.type ((cs.drop f2.offset).take (P.cellsOf f2.type)) = some y2 ∧
      DataW.trod enc P w base spare held n f3.type ((cs.drop f3.offset).take (P.cellsOf f3.type)) = some y3 ∧ DataW.trod enc P w base spare held n f4.type ((cs.drop f4.offset).take (P.cellsOf f4.type)) = some y4 := by
  obtain ⟨xs, n, _, rfl, hl, hlen, hf⟩ := DataW.trod_struct ht h
  match xs, hlen with
  | [y0, y1, y2, y3, y4], _ => exact ⟨y0, y1, y2, y3, y4, n, by simp, hl, by simpa using hf 0 f0 rfl, by simpa using hf 1 f1 rfl, by simpa using hf 2 f2 rfl, by simpa using hf 3 f3 rfl, by simpa using hf 4 f4 rfl⟩
/-- A list, of its pieces. -/
theorem list_cut (l : List Value) (a b : Nat) (h : (l.drop a).take b = (l.drop a).take b) : l.drop a = (l.drop a).take b ++ l.drop (a + b) := by
  rw [← List.drop_drop, List.take_append_drop]
theorem list5 {β : Type} {l : List β} {a b c d e : β} (hl : l.length = 5) (h0 : (l.drop 0).take 1 = [a]) (h1 : (l.drop 1).take 1 = [b]) (h2 : (l.drop 2).take 1 = [c]) (h3 : (l.drop 3).take 1 = [d]) (h4 : (l.drop 4).take 1 = [e]) : l = [a, b, c, d, e] := by
  match l, hl with
  | [x, y, z, u, v], _ => simp at h0 h1 h2 h3 h4; rw [h0, h1, h2, h3, h4]
end
end Go.Proofs.Ytncbhpopobjaiaa

/- Disks: all that waits is done: Sync; the power goes, and comes again: Crash: what they return. -/
namespace Go.Proofs.Ytncbhpopobjaiaa
set_option linter.unusedVariables false
set_option linter.unusedSimpArgs false
open Go Go.RowKit

theorem Turn3.widen {w w' : World} {g b : Nat} {r : Option Nat} (h : Turn3 w w' b b none) : Turn3 w w' g b r := ⟨h.os, h.tape, h.output, h.size, fun k hk _ hb _ => h.block k hk hb hb (by simp)⟩
theorem Turn3.cell {w w' : World} {b k j : Nat} (h : Turn3 w w' b b none) (hk : k < w.heap.size) (hb : k ≠ b) : w'.cell? ⟨k, j, none⟩ = w.cell? ⟨k, j, none⟩ := World.cell?_of_block (h.block k hk hb hb (by simp))
theorem wc_len (l : List Wr) : ∀ x ∈ l, (wcell x).length = 65 := fun x _ => wcell_len x
theorem dall_take (s : List Sc) (l : List Wr) (k : Nat) (hk : k < l.length) : dall s (l.take (k + 1)) = dsettle (dall s (l.take k)) l[k] 1 := by
  rw [List.take_succ_eq_append_getElem hk, dall_snoc]
theorem dkeep_take (keep : List Int) (s : List Sc) (l : List Wr) (k : Nat) (hk : k < l.length) : dkeep keep 0 s (l.take (k + 1)) = dsettle (dkeep keep 0 s (l.take k)) l[k] (outc keep k) := by
  rw [List.take_succ_eq_append_getElem hk, dkeep_snoc, Nat.zero_add, List.length_take, Nat.min_eq_left (by omega)]
/-- A write that waits, where it lies. -/
theorem DkAt.wait {w : World} {L g b : Nat} {r : Option Nat} {D : Dk} {A : Option Addr} {c n : Nat} (h : DkAt w L g b r D) (hA : w.cell? ⟨g, 1, none⟩ = some (.slice A n c)) (hn : n = D.w.length) (k : Nat) (hk : k < D.w.length) :
    ∃ q, A = some ⟨q, 0, none⟩ ∧ r = some q ∧ w.rangeAt q (k * 65) (wcell D.w[k]) ∧ q < w.heap.size := by
  obtain ⟨A0, c0, _, k1, _, _, hr0, hre, _⟩ := h.cells
  rw [hA] at k1
  injection k1 with k1
  injection k1 with k1 k2 k3
  subst k1
  have hs := row_sees hr0
  obtain ⟨q, o, e, hb, hrg⟩ := sees_rw (f := wcell) (sz := 65) (wc_len _) hs (by decide) k hk
  obtain ⟨_, h0 | ⟨g', cap, cur, e1, _, _, _⟩⟩ := hr0
  · have := h0.2; omega
  · injection e1 with ea
    rw [ea] at e
    injection e with e
    injection e with e1 e2
    subst e1
    subst e2
    rw [Nat.zero_add] at hrg
    exact ⟨g', ea, by rw [hre, ea]; rfl, hrg, hb⟩

set_option maxRecDepth 100000 in
set_option maxHeartbeats 6400000 in
theorem sync_any (L g b : Nat) (r : Option Nat) (D : Dk) (w : World) (h : DkAt w L g b r D) (hin : DIn D) (hf : -9223372036854775808 ≤ D.fuse ∧ D.fuse ≤ 9223372036854775807) (hw : D.w.length ≤ 65536) (hL : L ≤ w.heap.size) :
    Calls Try.prog 37 #[.pointer (some ⟨g, 0, none⟩)] w fun e w' => e = .returned (.int .i64 (dsync D).2) ∧ ∃ r', DkAt w' L g b r' (dsync D).1 ∧ Turn3 w w' g b r ∧ RowN w r r' := by
  have hu := Try.underlying86
  have HRD := Lib.hid (ready_any L g b r D w h)
  cases hd : D.dead with
  | true =>
    have HR : Hid (dsync D = (D, 15)) := Lib.hid (by unfold dsync; rw [hd]; rfl)
    rw [hd] at HRD
    have HH := Lib.hid h
    clear h hd hin hf
    go_enter Try.func37, Try.ntmps37
    go_wp2_with fail
    refine HRD.out.mono ?_
    rintro e w1 ⟨rfl, rfl⟩
    go_wp2_with fail
    go_ret
    exact ⟨by rw [HR.out]; rfl, r, by rw [HR.out]; exact HH.out, Turn3.refl _ _ _ _, RowN.refl _ _⟩
  | false =>
    rw [hd] at HRD
    have HST := Lib.hid (dkstep_any L g b r D w h hf)
    obtain ⟨D1, hD1⟩ : ∃ D1, D1 = (dstep D).1 := ⟨_, rfl⟩
    obtain ⟨e1, he1⟩ : ∃ e1, e1 = (dstep D).2 := ⟨_, rfl⟩
    rw [← hD1, ← he1] at HST
    have HD1 : Hid (D1.s = D.s ∧ D1.w = D.w ∧ DIn D1) := Lib.hid (by rw [hD1]; exact ⟨(dstep_s D).1, (dstep_s D).2, hin.step⟩)
    by_cases h0 : e1 = 0
    · have HR : Hid (dsync D = ({ D1 with s := dall D1.s D1.w, w := [] }, 0)) := Lib.hid (by unfold dsync; rw [hd, ← he1, if_neg (by simp), if_pos h0, ← hD1, HD1.out.1, HD1.out.2.1])
      subst h0
      have hgl := h.lt
      have hLw := Lib.hid hL
      clear h hd hin hf he1 hD1
      go_enter Try.func37, Try.ntmps37
      go_wp2_with fail
      refine HRD.out.mono ?_
      rintro e w1 ⟨rfl, rfl⟩
      go_wp2_with fail
      refine HST.out.mono ?_
      rintro e w1 ⟨rfl, H1, T1⟩
      obtain ⟨A, c, k0, k1, k2, k3, hrow, hre, hz⟩ := H1.cells
      obtain ⟨n, hn⟩ : ∃ n, n = D1.w.length := ⟨_, rfl⟩
      rw [← hn] at k1
      have hn16 : n ≤ 65536 := by rw [hn, HD1.out.2.1]; exact hw
      have HN := Lib.hid hn
      have H1 := Lib.hid H1
      have T1 := Lib.hid T1
      have hg1 := H1.out.lt
      have HK1 := Lib.hid k1
      clear hrow hre hz k0 k2 k3 hn hw hL
      go_wp2_with fail
      go_loopw [22] (fun i wr => ∃ k : Nat, k ≤ n ∧ i = .int .i64 (k : Int) ∧ Hid (DkAt wr L g b r { D1 with s := dall D1.s (D1.w.take k) }) ∧ Hid (Turn3 w1 wr b b none)) (fun i _ => n - (intOf i).toNat)
      case atStart => exact ⟨0, by omega, rfl, Lib.hid H1.out, Lib.hid (Turn3.refl _ _ _ _)⟩
      case round =>
        obtain ⟨k, hk, rfl, HA, HT⟩ := hrel
        have hgb := HA.out.gb
        have k1' : wr.cell? ⟨g, 1, none⟩ = some (.slice A n c) := (HT.out.cell hg1.1 hgb).trans HK1.out
        by_cases hlt : k < n
        · have d1 : decide ((k : Int) < (n : Int)) = true := decide_eq_true (by omega)
          have hkl : k < D1.w.length := by rw [← HN.out]; exact hlt
          obtain ⟨q, eA, hrq, hrg, hql⟩ := DkAt.wait HA.out k1' HN.out k hkl
          subst eA
          have HDA := Lib.hid (dall_take D1.s D1.w k hkl)
          have HIN : Hid (dhas { D1 with s := dall D1.s (D1.w.take k) } D1.w[k].1 = true) := Lib.hid (by
            have := HD1.out.2.2 _ (List.getElem_mem hkl)
            unfold dhas at *
            rw [show ({ D1 with s := dall D1.s (D1.w.take k) } : Dk).s.length = D1.s.length from dall_len _ _]
            exact this)
          obtain ⟨x, hx⟩ : ∃ x, x = D1.w[k] := ⟨_, rfl⟩
          have hrg : wr.rangeAt q (k * 65) (wcell x) := by rw [hx]; exact hrg
          rw [← hx] at HDA HIN
          have ONE := all_oneCell_toArray (wcell_one x)
          obtain ⟨xc, hxc⟩ : ∃ xc, xc = wcell x := ⟨_, rfl⟩
          obtain ⟨zc, hzc⟩ : ∃ zc, zc = wcell (0, z64) := ⟨_, rfl⟩
          have HZA : Hid (∀ wx : World, (Instr.alloc 86 true (.tuple #[])).run Try.prog wx = .ok (.pointer (some ⟨wx.heap.size, 0, none⟩)) (wx.alloc (.cells zc.toArray 86))) := Lib.hid (fun wx => by rw [hzc]; exact zero_wr wx)
          have HXL : Hid (xc.length = 65) := Lib.hid (by rw [hxc, wcell_len])
          have HXZ : xc.length = zc.length := by rw [hxc, hzc, wcell_len, wcell_len]
          rw [← hxc] at hrg ONE
          have HXC := Lib.hid hxc
          have IN1 : (Try.prog.info? 86).map (·.size) = some xc.toArray.size := by rw [(List.size_toArray).trans HXL.out]; exact info_wri
          have BN := Blk.new wr zc 86
          have TH : (wr.alloc (.cells zc.toArray 86)).there wr.heap.size 0 xc.toArray.size := by
            rw [show xc.toArray.size = zc.length from (List.size_toArray).trans HXZ]
            exact BN.there 0 _ (by omega)
          have B2 := BN.sets xc 0 (by omega)
          rw [show zc.take 0 ++ xc ++ zc.drop (0 + xc.length) = xc by rw [Nat.zero_add, List.drop_eq_nil_of_le (by omega)]; simp] at B2
          obtain ⟨W2, hW2⟩ : ∃ W2, W2 = (wr.alloc (.cells zc.toArray 86)).setCells wr.heap.size 0 xc := ⟨_, rfl⟩
          rw [← hW2] at B2
          have L2 : Below wr.heap.size wr W2 := by rw [hW2]; exact below_sets (Nat.le_refl _) xc 0 ((Below.refl wr.heap.size wr).alloc (Nat.le_refl _) _)
          have R2 := B2.range 0 xc (by rw [List.drop_zero, List.take_length])
          have HA2 := Lib.hid (HA.out.later L2)
          have HT2 := Lib.hid (HT.out.trans (Turn3.of_below L2 b b none) (RowN.refl _ _))
          have HW2 := Lib.hid hW2
          have HSE := Lib.hid (settle_any L g b r { D1 with s := dall D1.s (D1.w.take k) } x 1 W2 HA2.out HIN.out)
          rw [← hxc] at HSE
          clear hx hxc hzc HXZ BN B2 hW2 L2 hrq hql HIN HA
          go_wp2_with (first
            | (refine wpList_load_mid rfl 86 (.tmp 24) rfl q (k * 65) rfl xc _ hrg hu rfl (by rw [HXL.out]; exact info_wri) ?_)
            | (refine wpList_new rfl 86 rfl zc (HZA.out _) ?_)
            | (refine wpList_store_mid rfl 86 (.tmp 6) (.tmp 25) rfl wr.heap.size 0 xc.toArray rfl rfl TH IN1 ONE ?_
               simp only [Act.put]
               generalize hw6 : World.setCells _ wr.heap.size 0 xc.toArray.toList = w6
               have e6 : w6 = W2 := hw6.symm.trans HW2.out.symm
               subst e6
               clear hw6 TH hrg)
            | (refine wpList_load_mid rfl 86 (.tmp 6) rfl wr.heap.size 0 rfl xc _ R2 hu rfl (by rw [HXL.out]; exact info_wri) ?_)
            | fail)
          refine HSE.out.mono ?_
          rintro e w3 ⟨rfl, H3, T3⟩
          have H3 := Lib.hid H3
          have T3 := Lib.hid (HT2.out.trans T3 (RowN.refl _ _))
          clear R2 HSE HT2
          go_wp2_with fail
          go_roundw
          case rel => exact ⟨k + 1, by omega, by go_num, Lib.hid (by rw [HDA.out]; exact H3.out), T3⟩
          case measure => simp [intOf]; omega
        · obtain rfl : k = n := by omega
          have d1 : decide ((k : Int) < (k : Int)) = false := by simp
          have HTK : Hid (D1.w.take k = D1.w) := Lib.hid (List.take_of_length_le (by rw [← HN.out]; exact Nat.le_refl _))
          rw [HTK.out] at HA
          obtain ⟨A0, c0, B0, hr9, hre9⟩ := HA.out.at_
          have fz := B0.frozen 1
          clear hr9 hre9
          have HSN := Lib.hid (DkAt.setNone HA.out)
          have TT := Lib.hid ((T1.out.trans HT.out.widen (RowN.refl _ _)).trans (Turn3.set wr g b g 1 r (.slice none 0 0) (.inl rfl)) (RowN.refl _ _))
          clear B0
          go_wp2_with fail
          go_ret
          exact ⟨by rw [HR.out]; rfl, none, by rw [HR.out]; exact HSN.out, TT.out, RowN.none _ _⟩
    · have HR : Hid (dsync D = dstep D) := Lib.hid (by unfold dsync; rw [hd, ← he1, if_neg (by simp), if_neg h0])
      have n0 : (e1 != 0) = true := by rw [bne_iff_ne]; exact h0
      have HE : Hid (dstep D = (D1, e1)) := Lib.hid (by rw [hD1, he1])
      clear h hd hin hf he1 hD1 h0
      go_enter Try.func37, Try.ntmps37
      go_wp2_with fail
      refine HRD.out.mono ?_
      rintro e w1 ⟨rfl, rfl⟩
      go_wp2_with fail
      refine HST.out.mono ?_
      rintro e w1 ⟨rfl, H1, T1⟩
      have H1 := Lib.hid H1
      have T1 := Lib.hid T1
      go_wp2_with fail
      go_ret
      exact ⟨by rw [HR.out, HE.out]; rfl, r, by rw [HR.out, HE.out]; exact H1.out, T1.out, RowN.refl _ _⟩
end Go.Proofs.Ytncbhpopobjaiaa

/- Disks: the power goes, and comes again: Crash: what it returns. -/
namespace Go.Proofs.Ytncbhpopobjaiaa
set_option linter.unusedVariables false
set_option linter.unusedSimpArgs false
open Go Go.RowKit

theorem outc_no {keep : List Int} {k : Nat} (h : keep.length ≤ k) : outc keep k = 0 := by unfold outc; rw [List.getElem?_eq_none h]
theorem outc_yes {keep : List Int} {k : Nat} (h : k < keep.length) : outc keep k = if 0 < keep[k] then keep[k] % 3 else 0 := by unfold outc; rw [List.getElem?_eq_getElem h]
set_option maxRecDepth 100000 in
set_option maxHeartbeats 6400000 in
theorem crash_any (L g b : Nat) (r : Option Nat) (D : Dk) (A1 : Option Addr) (n1 c1 : Nat) (keep : List Int) (w : World) (h : DkAt w L g b r D) (hin : DIn D) (hw : D.w.length ≤ 65536) (hL : L ≤ w.heap.size) (hk1 : keep.length = n1) (hn1 : n1 ≤ maxLen) (hs : ∀ W, Turn3 w W b b none → Sees W W.heap.size A1 (ivs keep)) :
    Calls Try.prog 20 #[.pointer (some ⟨g, 0, none⟩), .slice A1 n1 c1] w fun e w' => e = .returned (.tuple #[]) ∧ DkAt w' L g b none (dcrash D keep) ∧ Turn3 w w' g b r := by
  have hu := Try.underlying86
  obtain ⟨A, c, k0, k1, k2, k3, hrow, hre, hz⟩ := h.cells
  obtain ⟨n, hn⟩ : ∃ n, n = D.w.length := ⟨_, rfl⟩
  rw [← hn] at k1
  have hn16 : n ≤ 65536 := by rw [hn]; exact hw
  unfold maxLen at hn1
  have HN := Lib.hid hn
  have HKL := Lib.hid hk1
  have H1 := Lib.hid h
  have HIN0 := Lib.hid hin
  have hg1 := h.lt
  have HK1 := Lib.hid k1
  have HS := Lib.hid hs
  have HLL := Lib.hid hL
  have HLG : Hid (L ≤ g ∧ L ≤ b) := Lib.hid ⟨h.Lg, h.Lb⟩
  clear hrow hre hz k0 k2 k3 hn hw hL hk1 hs h hin
  go_enter Try.func20, Try.ntmps20
  go_wp2_with fail
  go_loopw [14] (fun i wr => ∃ k : Nat, k ≤ n ∧ i = .int .i64 (k : Int) ∧ Hid (DkAt wr L g b r { D with s := dkeep keep 0 D.s (D.w.take k) }) ∧ Hid (Turn3 w wr b b none)) (fun i _ => n - (intOf i).toNat)
  case atStart => exact ⟨0, by omega, rfl, Lib.hid H1.out, Lib.hid (Turn3.refl _ _ _ _)⟩
  case round =>
    obtain ⟨k, hk, rfl, HA, HT⟩ := hrel
    have hgb := HA.out.gb
    have k1' : wr.cell? ⟨g, 1, none⟩ = some (.slice A n c) := (HT.out.cell hg1.1 hgb).trans HK1.out
    by_cases hlt : k < n
    · have d1 : decide ((k : Int) < (n : Int)) = true := decide_eq_true (by omega)
      have hkl : k < D.w.length := by rw [← HN.out]; exact hlt
      obtain ⟨q, eA, hrq, hrg, hql⟩ := DkAt.wait HA.out k1' HN.out k hkl
      subst eA
      have HDA := Lib.hid (dkeep_take keep D.s D.w k hkl)
      have HIN : Hid (dhas { D with s := dkeep keep 0 D.s (D.w.take k) } D.w[k].1 = true) := Lib.hid (by
        have := HIN0.out _ (List.getElem_mem hkl)
        unfold dhas at *
        rw [show ({ D with s := dkeep keep 0 D.s (D.w.take k) } : Dk).s.length = D.s.length from dkeep_len _ _ _ _]
        exact this)
      obtain ⟨oc, hoc⟩ : ∃ oc, oc = outc keep k := ⟨_, rfl⟩
      rw [← hoc] at HDA
      obtain ⟨x, hx⟩ : ∃ x, x = D.w[k] := ⟨_, rfl⟩
      have hrg : wr.rangeAt q (k * 65) (wcell x) := by rw [hx]; exact hrg
      rw [← hx] at HDA HIN
      have ONE := all_oneCell_toArray (wcell_one x)
      obtain ⟨xc, hxc⟩ : ∃ xc, xc = wcell x := ⟨_, rfl⟩
      obtain ⟨zc, hzc⟩ : ∃ zc, zc = wcell (0, z64) := ⟨_, rfl⟩
      have HZA : Hid (∀ wx : World, (Instr.alloc 86 true (.tuple #[])).run Try.prog wx = .ok (.pointer (some ⟨wx.heap.size, 0, none⟩)) (wx.alloc (.cells zc.toArray 86))) := Lib.hid (fun wx => by rw [hzc]; exact zero_wr wx)
      have HXL : Hid (xc.length = 65) := Lib.hid (by rw [hxc, wcell_len])
      have HXZ : xc.length = zc.length := by rw [hxc, hzc, wcell_len, wcell_len]
      rw [← hxc] at hrg ONE
      have HXC := Lib.hid hxc
      have IN1 : (Try.prog.info? 86).map (·.size) = some xc.toArray.size := by rw [(List.size_toArray).trans HXL.out]; exact info_wri
      have BN := Blk.new wr zc 86
      have TH : (wr.alloc (.cells zc.toArray 86)).there wr.heap.size 0 xc.toArray.size := by
        rw [show xc.toArray.size = zc.length from (List.size_toArray).trans HXZ]
        exact BN.there 0 _ (by omega)
      have B2 := BN.sets xc 0 (by omega)
      rw [show zc.take 0 ++ xc ++ zc.drop (0 + xc.length) = xc by rw [Nat.zero_add, List.drop_eq_nil_of_le (by omega)]; simp] at B2
      obtain ⟨W2, hW2⟩ : ∃ W2, W2 = (wr.alloc (.cells zc.toArray 86)).setCells wr.heap.size 0 xc := ⟨_, rfl⟩
      rw [← hW2] at B2
      have L2 : Below wr.heap.size wr W2 := by rw [hW2]; exact below_sets (Nat.le_refl _) xc 0 ((Below.refl wr.heap.size wr).alloc (Nat.le_refl _) _)
      have R2 := B2.range 0 xc (by rw [List.drop_zero, List.take_length])
      have HL2 := Lib.hid L2
      have HA2 := Lib.hid (HA.out.later L2)
      have HT2 := Lib.hid (HT.out.trans (Turn3.of_below L2 b b none) (RowN.refl _ _))
      have HW2 := Lib.hid hW2
      have HSE := Lib.hid (settle_any L g b r { D with s := dkeep keep 0 D.s (D.w.take k) } x oc W2 HA2.out HIN.out)
      rw [← hxc] at HSE
      clear hx hxc hzc HXZ BN B2 hW2 L2 hrq hql HIN
      by_cases hk9 : k < n1
      · have d9 : decide ((k : Int) < (n1 : Int)) = true := decide_eq_true (by omega)
        have hkk : k < keep.length := by rw [HKL.out]; exact hk9
        obtain ⟨bk, ok, ek, hbk, hck⟩ := (HS.out W2 HT2.out).int k hkk
        subst ek
        have hoc2 := hoc.trans (outc_yes hkk)
        obtain ⟨z, hz⟩ : ∃ z, z = keep[k] := ⟨_, rfl⟩
        rw [← hz] at hck hoc2
        clear hz hoc
        by_cases hz0 : 0 < z
        · have dz : decide (0 < z) = true := decide_eq_true hz0
          rw [if_pos hz0] at hoc2
          have t1 : Int.tmod z 3 = oc := by rw [hoc2]; exact Int.tmod_eq_emod_of_nonneg (by omega)
          have t2 : z % 3 = oc := hoc2.symm
          clear hoc2
          go_wp2_with (first
            | (refine wpList_load_mid rfl 86 (.tmp 17) rfl q (k * 65) rfl xc _ hrg hu rfl (by rw [HXL.out]; exact info_wri) ?_)
            | (refine wpList_new rfl 86 rfl zc (HZA.out _) ?_)
            | (refine wpList_store_mid rfl 86 (.tmp 5) (.tmp 18) rfl wr.heap.size 0 xc.toArray rfl rfl TH IN1 ONE ?_
               simp only [Act.put]
               generalize hw6 : World.setCells _ wr.heap.size 0 xc.toArray.toList = w6
               have e6 : w6 = W2 := hw6.symm.trans HW2.out.symm
               subst e6
               clear hw6 TH hrg)
            | (refine wpList_load_mid rfl 86 (.tmp 5) rfl wr.heap.size 0 rfl xc _ R2 hu rfl (by rw [HXL.out]; exact info_wri) ?_)
            | fail)
          refine HSE.out.mono ?_
          rintro e w3 ⟨rfl, H3, T3⟩
          have H3 := Lib.hid H3
          have T3 := Lib.hid (HT2.out.trans T3 (RowN.refl _ _))
          clear R2 HSE HT2
          go_wp2_with fail
          go_roundw
          case rel => exact ⟨k + 1, by omega, by go_num, Lib.hid (by rw [HDA.out]; exact H3.out), T3⟩
          case measure => simp [intOf]; omega
        · have dz : decide (0 < z) = false := decide_eq_false hz0
          rw [if_neg hz0] at hoc2
          subst hoc2
          go_wp2_with (first
            | (refine wpList_load_mid rfl 86 (.tmp 17) rfl q (k * 65) rfl xc _ hrg hu rfl (by rw [HXL.out]; exact info_wri) ?_)
            | (refine wpList_new rfl 86 rfl zc (HZA.out _) ?_)
            | (refine wpList_store_mid rfl 86 (.tmp 5) (.tmp 18) rfl wr.heap.size 0 xc.toArray rfl rfl TH IN1 ONE ?_
               simp only [Act.put]
               generalize hw6 : World.setCells _ wr.heap.size 0 xc.toArray.toList = w6
               have e6 : w6 = W2 := hw6.symm.trans HW2.out.symm
               subst e6
               clear hw6 TH hrg)
            | (refine wpList_load_mid rfl 86 (.tmp 5) rfl wr.heap.size 0 rfl xc _ R2 hu rfl (by rw [HXL.out]; exact info_wri) ?_)
            | fail)
          refine HSE.out.mono ?_
          rintro e w3 ⟨rfl, H3, T3⟩
          have H3 := Lib.hid H3
          have T3 := Lib.hid (HT2.out.trans T3 (RowN.refl _ _))
          clear R2 HSE HT2
          go_wp2_with fail
          go_roundw
          case rel => exact ⟨k + 1, by omega, by go_num, Lib.hid (by rw [HDA.out]; exact H3.out), T3⟩
          case measure => simp [intOf]; omega
      · have d9 : decide ((k : Int) < (n1 : Int)) = false := decide_eq_false (by omega)
        have hoc2 := hoc.trans (outc_no (by rw [HKL.out]; omega))
        clear hoc
        subst hoc2
        go_wp2_with (first
          | (refine wpList_load_mid rfl 86 (.tmp 17) rfl q (k * 65) rfl xc _ hrg hu rfl (by rw [HXL.out]; exact info_wri) ?_)
          | (refine wpList_new rfl 86 rfl zc (HZA.out _) ?_)
          | (refine wpList_store_mid rfl 86 (.tmp 5) (.tmp 18) rfl wr.heap.size 0 xc.toArray rfl rfl TH IN1 ONE ?_
             simp only [Act.put]
             generalize hw6 : World.setCells _ wr.heap.size 0 xc.toArray.toList = w6
             have e6 : w6 = W2 := hw6.symm.trans HW2.out.symm
             subst e6
             clear hw6 TH hrg)
          | (refine wpList_load_mid rfl 86 (.tmp 5) rfl wr.heap.size 0 rfl xc _ R2 hu rfl (by rw [HXL.out]; exact info_wri) ?_)
          | fail)
        refine HSE.out.mono ?_
        rintro e w3 ⟨rfl, H3, T3⟩
        have H3 := Lib.hid H3
        have T3 := Lib.hid (HT2.out.trans T3 (RowN.refl _ _))
        clear R2 HSE HT2
        go_wp2_with fail
        go_roundw
        case rel => exact ⟨k + 1, by omega, by go_num, Lib.hid (by rw [HDA.out]; exact H3.out), T3⟩
        case measure => simp [intOf]; omega
    · obtain rfl : k = n := by omega
      have d1 : decide ((k : Int) < (k : Int)) = false := by simp
      have HTK : Hid (D.w.take k = D.w) := Lib.hid (List.take_of_length_le (by rw [← HN.out]; exact Nat.le_refl _))
      rw [HTK.out] at HA
      obtain ⟨A0, c0, B0, hr9, hre9⟩ := HA.out.at_
      have f1 := B0.frozen 1
      have f2 := B0.frozen 2
      have f3 := B0.frozen 3
      have q2 := B0.cell (j := 2) rfl
      have q3 := B0.cell (j := 3) rfl
      clear hr9 hre9 B0
      have HSN := Lib.hid (((DkAt.setNone HA.out).setDead false).setFuse (-1))
      have TT := Lib.hid (((HT.out.widen.trans (Turn3.set wr g b g 1 r (.slice none 0 0) (.inl rfl)) (RowN.refl _ _)).trans (Turn3.set _ g b g 3 r (.bool false) (.inl rfl)) (RowN.refl _ _)).trans (Turn3.set _ g b g 2 r (.int .i64 (-1)) (.inl rfl)) (RowN.refl _ _))
      go_wp2_with fail
      go_end0
      exact ⟨rfl, HSN.out, TT.out⟩
end Go.Proofs.Ytncbhpopobjaiaa
