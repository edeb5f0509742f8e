/- Disks: a sector is written: Write: what it returns. -/
import Derived.Test.YtjnfdhjnfginpaaDkD
import Derived.Test.YtjnfdhjnfginpaaHeldD
import Derived.Lib.LazyBuf
namespace Go.Proofs.Ytjnfdhjnfginpaa
set_option linter.unusedVariables false
set_option linter.unusedSimpArgs false
open Go Go.RowKit

/-- copy(d, s), by its run. -/
theorem wpList_copy {P : Program} {w : World} {ops : Array Oper} {rest : List Oper} {o : Oper} {a : Act} {Q : Exit → Act → World → Prop} (hgd : o.guard = none) (d s : Operand) (t t' : TypeId)
    (ho : o.op = .call { callee := .builtin .copy, args := #[d, s], argTypes := #[t, t'] }) (v u : Value) (hd : a.eval d = v) (hs : a.eval s = u) {v' : Value} {w' : World}
    (hr : (Builtin.copy_ #[t, t'] o.type #[v, u]).run P w = .ok v' w') (h : wpList P ops Q rest (a.put o.dst v') w') : wpList P ops Q (o :: rest) a w :=
  wpList_plain hgd fun _ hK => by
    unfold Oper.wp execOp
    simp only [ho, resolve, invoke, builtin, Sem.run_bind, Sem.run_pure, Result.andThen_ok, List.map_toArray, List.map_cons, List.map_nil, hd, hs, hr]
    exact hK _ _ h
theorem wp_copy {P : Program} {w : World} {o : Oper} {a : Act} {K : Act → World → Prop} {Q : Exit → Act → World → Prop} (d s : Operand) (t t' : TypeId)
    (ho : o.op = .call { callee := .builtin .copy, args := #[d, s], argTypes := #[t, t'] }) (v u : Value) (hd : a.eval d = v) (hs : a.eval s = u) {v' : Value} {w' : World}
    (hr : (Builtin.copy_ #[t, t'] o.type #[v, u]).run P w = .ok v' w') (h : K (a.put o.dst v') w') : o.wp P a w K Q := by
  unfold Oper.wp execOp
  simp only [ho, resolve, invoke, builtin, Sem.run_bind, Sem.run_pure, Result.andThen_ok, List.map_toArray, List.map_cons, List.map_nil, hd, hs, hr]
  exact h
theorem step_run {P : Program} {ops : Array Oper} {o : Oper} {a : Act} {w w' : World} {K : Act → World → Prop} {Q : Exit → Act → World → Prop} {E : Prop} (hgd : o.guard = none) (v : Value)
    (he : (execOp a.eval o).run P w = .ok (.value v) w') (h : K (a.put o.dst v) w') : if Region.wanted o (yielded ops a.tmps) = true then Oper.wp P o a w K Q else E := by
  have hw : Region.wanted o (yielded ops a.tmps) = true := by simp [Region.wanted, hgd]
  rw [if_pos hw]
  unfold Oper.wp
  rw [he]
  exact h
theorem exec_lit {P : Program} {o : Oper} {a : Act} {w w' : World} (t : TypeId) (x : Operand) (ho : o.op = .buildSlice t 1 #[(0, x)]) (v r : Value) (hx : a.eval x = v) (hr : (Instr.buildSlice t 1 #[(0, v)]).run P w = .ok r w') : (execOp a.eval o).run P w = .ok (.value r) w' := by
  unfold execOp
  simp only [ho, List.map_toArray, List.map_cons, List.map_nil, hx, Sem.run_bind, hr, Result.andThen_ok, Sem.run_pure]
theorem Turn3.of_grown {w w' : World} {g b : Nat} {r : Option Nat} (h : w.grownBy w' r) : Turn3 w w' g b r := ⟨h.os, h.tape, h.output, h.size, fun k hk _ _ hr => h.block k hk hr⟩
/-- A slot that holds a slice of one write. -/
def relWri (x : Wr) : Rel where
  rel v w := ∃ g, v = .slice (some ⟨g, 0, none⟩) 1 1 ∧ Blk w g (wcell x)
  mono := fun v w w' h ⟨g, e, hb⟩ => ⟨g, e, hb.later h⟩
  real := fun w ⟨_, e, _⟩ => by cases e
theorem wri_gives {a : Act} {op : Oper} (y : Operand) (x : Wr) (xc : List Value) (hxc : xc = wcell x) (ho : op.op = .buildSlice 51 1 #[(0, y)]) (hx : a.eval y = .agg xc.toArray) (w : World) : gives Try.prog op a (relWri x).rel w := by
  subst hxc
  unfold gives execOp
  simp only [ho, List.map_toArray, List.map_cons, List.map_nil, hx, Sem.run_bind, run_wr1 x.1 x.2, Result.andThen_ok, Sem.run_pure]
  exact ⟨(Below.refl _ _).alloc (Nat.le_refl _) _, _, rfl, Blk.new w (wcell x) _⟩
theorem info_wrid : ∃ i0, Try.prog.info? 59 = some i0 ∧ i0.zero = some (.agg (wcell (0, z64)).toArray) ∧ i0.size = 65 ∧ i0.bytes = 72 := by
  have h : (Try.prog.info? 59).map (fun i => (i.zero, i.size, i.bytes)) = some (some (.agg (wcell (0, z64)).toArray), 65, 72) := by kernel_rfl
  cases hi : Try.prog.info? 59 with
  | none => rw [hi] at h; cases h
  | some i0 =>
    rw [hi] at h
    simp only [Option.map_some, Option.some.injEq, Prod.mk.injEq] at h
    exact ⟨i0, rfl, h.1, h.2.1, h.2.2⟩
/-- One more write waits. -/
theorem DkAt.push {w w6 : World} {L g b : Nat} {r : Option Nat} {D : Dk} {A A' : Option Addr} {c c' : Nat} (h : DkAt w L g b r D) (x : Wr) (hA : w.cell? ⟨g, 1, none⟩ = some (.slice A D.w.length c)) (hg : w.grownBy w6 (Value.slice A D.w.length c).ownBlock)
    (hr6 : w6.ownsRow L 59 65 (.slice A' (D.w.length + 1) c') (D.w.length + 1) (wcs D.w ++ wcell x)) (hat : (Value.slice A' (D.w.length + 1) c').ownBlock = (Value.slice A D.w.length c).ownBlock ∨ (Value.slice A' (D.w.length + 1) c').ownBlock = some w.heap.size) :
    ∃ r', DkAt (w6.setCell ⟨g, 1, none⟩ (.slice A' (D.w.length + 1) c')) L g b r' { D with w := D.w ++ [x] } ∧ Turn3 w (w6.setCell ⟨g, 1, none⟩ (.slice A' (D.w.length + 1) c')) g b r ∧ RowN w r r' := by
  have hlt := h.lt
  obtain ⟨⟨A0, c0, B, hr, e⟩, h2, h3, h4, h5, h6, h7⟩ := h
  have hA0 := B.cell (j := 1) rfl
  rw [hA] at hA0
  injection hA0 with hA0
  rw [← hA0] at e B
  rw [← e] at hg hat
  have hrg : (Value.slice A' (D.w.length + 1) c').ownBlock ≠ some g := by
    rcases hat with h | h <;> rw [h]
    · exact h4
    · intro e; injection e; omega
  have hrb : (Value.slice A' (D.w.length + 1) c').ownBlock ≠ some b := by
    rcases hat with h | h <;> rw [h]
    · exact h5
    · intro e; injection e; omega
  have el : ({ D with w := D.w ++ [x] } : Dk).w.length = D.w.length + 1 := by simp
  refine ⟨(Value.slice A' (D.w.length + 1) c').ownBlock, ⟨⟨A', c', ?_, ?_, by rw [el]⟩, (h2.kept hg h5).setOther 1 _ h3, h3, hrg, hrb, h6, h7⟩, ?_, ?_⟩
  · have := (B.kept hg h4).set 1 (.slice A' (D.w.length + 1) c')
    rw [el]
    simpa using this
  · rw [el]
    show World.ownsRow _ L _ 65 _ _ (wcs (D.w ++ [x]))
    rw [wcs_app, show wcs [x] = wcell x by simp [wcs]]
    exact row_apartD hr6 hrg [_] 1
  · exact (Turn3.of_grown hg).trans (Turn3.set w6 g b g 1 r _ (.inl rfl)) (RowN.refl _ _)
  · intro k hk
    rcases hat with h | h
    · rw [h] at hk; exact .inl hk
    · rw [h] at hk; injection hk with hk; exact .inr (by omega)

set_option maxRecDepth 100000 in
set_option maxHeartbeats 6400000 in
theorem write_any (L g b : Nat) (r : Option Nat) (D : Dk) (a : Int) (l : List UInt8) (w : World) (h : DkAt w L g b r D) (hf : -9223372036854775808 ≤ D.fuse ∧ D.fuse ≤ 9223372036854775807) (hl : l.length ≤ maxLen) (hw : D.w.length ≤ 65536) (hL : L ≤ w.heap.size) :
    Calls Try.prog 11 #[.pointer (some ⟨g, 0, none⟩), .int .i64 a, .string (str l)] w fun e w' => e = .returned (.int .i64 (dwrite D a l).2) ∧ ∃ r', DkAt w' L g b r' (dwrite D a l).1 ∧ Turn3 w w' g b r ∧ RowN w r r' := by
  have hu := Try.underlying59
  have HRD := Lib.hid (ready_any L g b r D w h)
  have HHS := Lib.hid (has_any L g b r D a w h)
  have hz := str_size l
  obtain ⟨n, hn⟩ : ∃ n, n = l.length := ⟨_, rfl⟩
  rw [← hn] at hz hl
  unfold maxLen at hl
  obtain ⟨sl, hsl⟩ : ∃ sl, sl = str l := ⟨_, rfl⟩
  rw [← hsl] at hz ⊢
  have HSL := Lib.hid hsl
  have HN := Lib.hid hn
  clear hsl hn
  cases hd : D.dead with
  | true =>
    have HR : Hid (dwrite D a l = (D, 15)) := Lib.hid (by unfold dwrite; rw [hd]; rfl)
    rw [hd] at HRD
    have HH := Lib.hid h
    clear h hd hz hl
    go_enter Try.func11, Try.ntmps11
    go_wp2_with fail
    refine HRD.out.mono ?_
    rintro e w1 ⟨rfl, rfl⟩
    go_wp2_with fail
    go_ret
    exact ⟨by rw [HR.out]; rfl, r, by rw [HR.out]; exact HH.out, Turn3.refl _ _ _ _, RowN.refl _ _⟩
  | false =>
    rw [hd] at HRD
    cases hs : dhas D a with
    | false =>
      have HR : Hid (dwrite D a l = (D, 1)) := Lib.hid (by unfold dwrite; rw [hd, hs]; simp)
      rw [hs] at HHS
      have HH := Lib.hid h
      clear h hd hs hz hl
      go_enter Try.func11, Try.ntmps11
      go_wp2_with fail
      refine HRD.out.mono ?_
      rintro e w1 ⟨rfl, rfl⟩
      go_wp2_with fail
      refine HHS.out.mono ?_
      rintro e w1 ⟨rfl, rfl⟩
      go_wp2_with fail
      go_ret
      exact ⟨by rw [HR.out]; rfl, r, by rw [HR.out]; exact HH.out, Turn3.refl _ _ _ _, RowN.refl _ _⟩
    | true =>
      rw [hs] at HHS
      by_cases h64 : n = 64
      · have HR : Hid (dwrite D a l = dstep { D with w := D.w ++ [(a, b64 l)] }) := Lib.hid (by unfold dwrite; rw [hd, hs, ← HN.out, if_neg (by simp), if_pos ⟨rfl, h64⟩])
        subst h64
        obtain ⟨A, c, h0, h1, h2, h3, hrow, hre, hfz⟩ := h.cells
        obtain ⟨i1, ji, jz0, jz1, jz2⟩ := info_wrid
        have HI := Lib.hid (And.intro ji (And.intro jz0 (And.intro jz1 jz2)))
        obtain ⟨x, hx⟩ : ∃ x : Wr, x = (a, b64 l) := ⟨_, rfl⟩
        rw [← hx] at HR
        obtain ⟨zc, hzc⟩ : ∃ zc, zc = wcell (0, z64) := ⟨_, rfl⟩
        obtain ⟨zw, hzw⟩ : ∃ zw, zw = wcell (a, z64) := ⟨_, rfl⟩
        have HZA : Hid (∀ wx : World, (Instr.alloc 59 true (.tuple #[])).run Try.prog wx = .ok (.pointer (some ⟨wx.heap.size, 0, none⟩)) (wx.alloc (.cells zc.toArray 59))) := Lib.hid (fun wx => by rw [hzc]; exact zero_wr wx)
        have HZB : Hid (∀ wx : World, (Instr.build 59 #[(0, .int .i64 a)]).run Try.prog wx = .ok (.agg zw.toArray) wx) := Lib.hid (fun wx => by rw [hzw]; exact run_wrb a wx)
        have hzl : zw.length = zc.length := by rw [hzw, hzc, wcell_len, wcell_len]
        have hz65 : zw.length = 65 := by rw [hzw, wcell_len]
        have ON1 := all_oneCell_toArray (wcell_one (a, z64))
        have HON : Hid ((zw.toArray.all (·.oneCell')) = true) := Lib.hid (by rw [hzw]; exact ON1)
        have IN1 : (Try.prog.info? 59).map (·.size) = some zw.toArray.size := by rw [(List.size_toArray).trans hz65]; exact info_wri
        have BN := Blk.new w zc 59
        have HB1 := (Below.refl w.heap.size w).alloc (Nat.le_refl _) (.cells zc.toArray 59)
        have TH : (w.alloc (.cells zc.toArray 59)).there w.heap.size 0 zw.toArray.size := by
          rw [show zw.toArray.size = zc.length from (List.size_toArray).trans hzl]
          exact BN.there 0 _ (by omega)
        have B2 := BN.sets zw 0 (by omega)
        rw [show zc.take 0 ++ zw ++ zc.drop (0 + zw.length) = zw by rw [Nat.zero_add, List.drop_eq_nil_of_le (by omega)]; simp] at B2
        obtain ⟨W2, hW2⟩ : ∃ W2, W2 = (w.alloc (.cells zc.toArray 59)).setCells w.heap.size 0 zw := ⟨_, rfl⟩
        rw [← hW2] at B2
        have L2 : Below w.heap.size w W2 := by rw [hW2]; exact below_sets (Nat.le_refl _) zw 0 HB1
        have HCP : Hid ((Builtin.copy_ #[60, 9] 3 #[.slice (some ⟨w.heap.size, 1, none⟩) 64 64, .string sl]).run Try.prog W2 = .ok (goInt sl.size) (W2.setCells w.heap.size 1 (bvs l))) := Lib.hid (by
          have := Go.run_copy_string (P := Try.prog) (ty := 3) W2 60 9 5 w.heap.size 1 64 64 sl Try.underlying60 (fun w => by kernel_rfl) (by omega)
            (fun j hj => by rw [B2.cell (List.getElem?_eq_getElem (show 1 + j < zw.length by omega))]; rfl) (fun j hj => B2.frozen _)
          rw [this, HSL.out]
          rfl)
        have B3 := B2.sets (bvs l) 1 (by rw [bvs_length, ← HN.out]; omega)
        have hxc : zw.take 1 ++ bvs l ++ zw.drop (1 + (bvs l).length) = wcell x := by
          rw [List.drop_eq_nil_of_le (by rw [bvs_length, ← HN.out]; omega), hzw, hx]
          show [_] ++ bvs l ++ [] = _ :: bvs (b64 l).1
          rw [b64_val HN.out.symm]
          simp
        rw [hxc] at B3
        obtain ⟨W3, hW3⟩ : ∃ W3, W3 = W2.setCells w.heap.size 1 (bvs l) := ⟨_, rfl⟩
        rw [← hW3] at B3 HCP
        have L3 : Below w.heap.size w W3 := by rw [hW3]; exact below_sets (Nat.le_refl _) _ _ L2
        have H3 := Lib.hid (h.later L3)
        have HL3 := Lib.hid L3
        obtain ⟨xc, hxcc⟩ : ∃ xc, xc = wcell x := ⟨_, rfl⟩
        have HXC := Lib.hid hxcc
        have HXL : Hid (xc.length = 65) := Lib.hid (by rw [hxcc, wcell_len])
        rw [← hxcc] at B3
        have HW2 := Lib.hid hW2
        have BX := B3
        have c1 : ∀ kk : LW W3, kk.val.cell? ⟨g, 1, none⟩ = some (.slice A D.w.length c) := fun kk => (L3.trans (kk.le.mono L3.size)).cell (p := ⟨g, 1, none⟩) h.lt.1 |>.trans h1
        have HX := Lib.hid hx
        have HD : Hid (D.w.length ≤ 65536) := Lib.hid hw
        have HFU : Hid (-9223372036854775808 ≤ D.fuse ∧ D.fuse ≤ 9223372036854775807) := Lib.hid hf
        have HL0 := Lib.hid hL
        have hn0 : ((64 : Nat) : Int) = 64 := rfl
        have hgl := h.lt.1
        have hrow0 := hrow
        clear h hd hs hl hzc hzw hzl hz65 BN B2 B3 hW2 hW3 hxc hxcc hx L2 L3 h0 h1 h2 h3 hrow hre hfz ji jz0 jz1 jz2 ON1 HB1 hw hf hL
        go_enter Try.func11, Try.ntmps11
        go_wp2_with fail
        refine HRD.out.mono ?_
        rintro e w1 ⟨rfl, rfl⟩
        go_wp2_with fail
        refine HHS.out.mono ?_
        rintro e w1 ⟨rfl, rfl⟩
        go_wp2_with (first
          | (refine wpList_exec (by rfl) (.agg zw.toArray) (exec_build 59 (.tmp 23) rfl (.int .i64 a) (.agg zw.toArray) rfl (HZB.out _)) ?_)
          | (refine wpList_new rfl 59 rfl zc (HZA.out _) ?_)
          | (refine wpList_store_mid rfl 59 (.tmp 8) (.tmp 24) rfl w.heap.size 0 zw.toArray rfl rfl TH IN1 HON.out ?_
             simp only [Act.put]
             generalize hw6 : World.setCells _ w.heap.size 0 zw.toArray.toList = w6
             have e6 : w6 = W2 := hw6.symm.trans HW2.out.symm
             subst e6
             clear hw6 TH)
          | fail)
        rw [HCP.out]
        simp only [Result.andThen]
        rw [Oper.upon_value]
        simp only [Act.put, List.setIfInBounds_toArray, List.set_cons_zero, List.set_cons_succ]
        go_wp2_with fail
        have hA3 := c1 ⟨W3, Le.refl W3⟩
        have HAX : Hid (∀ X, Below W3.heap.size W3 X → X.cell? ⟨g, 1, none⟩ = some (.slice A D.w.length c) ∧ X.ownsRow L 59 65 (.slice A D.w.length c) D.w.length (wcs D.w) ∧ DkAt X L g b r D) := Lib.hid (fun X hl => by
          have H5 := H3.out.later hl
          have HA5 := c1 ⟨X, hl⟩
          refine ⟨HA5, ?_, H5⟩
          obtain ⟨A0, c0, _, k1, _, _, hr0, _⟩ := H5.cells
          rw [HA5] at k1
          injection k1 with k1
          rw [k1]
          exact hr0)
        have hwz : w.heap.size ≤ W3.heap.size := HL3.out.size
        have HSE : Hid (∀ X, Blk X W3.heap.size xc → Sees X X.heap.size (some ⟨W3.heap.size, 0, none⟩) xc) := Lib.hid (fun X hB _ => ⟨W3.heap.size, 0, rfl, hB.lt, fun j hj => by rw [Nat.zero_add]; exact hB.cell (List.getElem?_eq_getElem hj)⟩)
        have HON6 : Hid (∀ u ∈ xc, u.oneCell' = true) := Lib.hid (by rw [HXC.out]; exact wcell_one x)
        have HZ65 : Hid ((Value.agg (wcell (0, z64)).toArray).cells.size = 65) := Lib.hid (by simp [Value.cells, wcell_len])
        have HR1 : Hid (∀ wx : World, (Instr.buildSlice 51 1 #[(0, .agg xc.toArray)]).run Try.prog wx = .ok (.slice (some ⟨wx.heap.size, 0, none⟩) 1 1) (wx.alloc (.cells xc.toArray 59))) := Lib.hid (fun wx => by rw [HXC.out]; exact run_wr1 x.1 x.2 wx)
        have HPU : Hid (∀ X w6 A3 c3, Below W3.heap.size W3 X → X.grownBy w6 (Value.slice A D.w.length c).ownBlock → w6.ownsRow L 59 65 (.slice A3 (D.w.length + 1) c3) (D.w.length + 1) (wcs D.w ++ xc) → ((Value.slice A3 (D.w.length + 1) c3).ownBlock = (Value.slice A D.w.length c).ownBlock ∨ (Value.slice A3 (D.w.length + 1) c3).ownBlock = some X.heap.size) →
            ∃ r', DkAt (w6.setCell ⟨g, 1, none⟩ (.slice A3 (D.w.length + 1) c3)) L g b r' { D with w := D.w ++ [x] } ∧ Turn3 w (w6.setCell ⟨g, 1, none⟩ (.slice A3 (D.w.length + 1) c3)) g b r ∧ RowN w r r') := Lib.hid (fun X w6 A3 c3 hl hg6 hr6 hat6 => by
          obtain ⟨HA5, _, H5⟩ := HAX.out X hl
          rw [HXC.out] at hr6
          obtain ⟨r', H7, T7, R7⟩ := DkAt.push H5 x HA5 hg6 hr6 hat6
          refine ⟨r', H7, ((Turn3.of_below (HL3.out.trans (hl.mono HL3.out.size)) g b r).trans T7 (RowN.refl _ _)), fun k hk => ?_⟩
          rcases R7 k hk with h | h
          · exact .inl h
          · exact .inr (Nat.le_trans hwz (Nat.le_trans hl.size h)))
        have HFC : Hid (∀ X w6, Below W3.heap.size W3 X → X.grownBy w6 (Value.slice A D.w.length c).ownBlock → w6.frozen? ⟨g, 1, none⟩ = false ∧ w6.cell? ⟨g, 1, none⟩ = some (.slice A D.w.length c)) := Lib.hid (fun X w6 hl hg6 => by
          obtain ⟨HA5, _, H5⟩ := HAX.out X hl
          have hne : (Value.slice A D.w.length c).ownBlock ≠ some g := by
            obtain ⟨A1, c1', _, k1, _, _, _, hre, _⟩ := H5.cells
            rw [HA5] at k1
            injection k1 with k1
            rw [k1, ← hre]
            exact H5.rg
          obtain ⟨A0, c0, B0, _⟩ := H5.at_
          have hB := B0.kept hg6 hne
          have hc := B0.cell (j := 1) rfl
          rw [HA5] at hc
          exact ⟨hB.frozen 1, (hB.cell (j := 1) rfl).trans hc.symm⟩)
        have hd63 : D.w.length + 1 ≤ maxLen := by have := HD.out; unfold maxLen; omega
        have hd64 : (D.w.length + 1) * 72 ≤ 140737488355328 := by have := HD.out; omega
        have HD63 := Lib.hid hd63
        have HD64 := Lib.hid hd64
        have HLW : Hid (L ≤ W3.heap.size) := Lib.hid (Nat.le_trans HL0.out hwz)
        obtain ⟨dn, hdn⟩ : ∃ dn, dn = D.w.length := ⟨_, rfl⟩
        rw [← hdn] at hA3 HAX HPU HFC HD63 HD64 hrow0
        have H0R := Lib.hid (And.intro hrow0 True.intro)
        clear c1 hd63 hd64 hdn HD
        obtain ⟨wd, hwd⟩ : ∃ wd, wd = W3.drew := ⟨_, rfl⟩
        have HLD : Hid (Below W3.heap.size W3 wd) := Lib.hid (by rw [hwd]; exact (Below.refl W3.heap.size W3).drew)
        have HWS : Hid (wd.heap.size = W3.heap.size) := Lib.hid (by rw [hwd]; rfl)
        obtain ⟨X, hX⟩ : ∃ X, X = wd.alloc (.cells xc.toArray 59) := ⟨_, rfl⟩
        have HLX : Hid (Below W3.heap.size W3 X) := Lib.hid (by rw [hX]; exact HLD.out.trans ((Below.refl wd.heap.size wd).alloc (Nat.le_refl _) _ |>.mono HLD.out.size))
        have HBX : Hid (Blk X W3.heap.size xc) := Lib.hid (by rw [hX, ← HWS.out]; exact Blk.new wd xc _)
        have HRG : Hid (∀ Y, Below W3.heap.size W3 Y → Y.rangeAt w.heap.size 0 xc) := Lib.hid (fun Y hY => (BX.later hY).range 0 xc (by rw [List.drop_zero, List.take_length]))
        have HSX : Hid (X.rangeAt w.heap.size 0 xc) := Lib.hid (HRG.out X HLX.out)
        have HOB : Hid ((Value.slice A dn c).ownBlock ≠ some w.heap.size) := Lib.hid (by
          intro e
          rcases (H0R.out.1).lt _ e with ⟨_, h2⟩
          exact absurd h2 (Nat.lt_irrefl _))
        have HS6 : Hid (∀ w6, X.grownBy w6 (Value.slice A dn c).ownBlock → w6.rangeAt w.heap.size 0 xc) := Lib.hid (fun w6 hg => ((BX.later HLX.out).kept hg HOB.out).range 0 xc (by rw [List.drop_zero, List.take_length]))
        have HS7 : Hid (∀ w6 A3 c3, X.grownBy w6 (Value.slice A dn c).ownBlock → (w6.setCell ⟨g, 1, none⟩ (.slice A3 (dn + 1) c3)).rangeAt w.heap.size 0 xc) := Lib.hid (fun w6 A3 c3 hg => (((BX.later HLX.out).kept hg HOB.out).setOther (b := g) 1 _ (by omega)).range 0 xc (by rw [List.drop_zero, List.take_length]))
        have hS : wd.rangeAt w.heap.size 0 xc := HRG.out wd HLD.out
        have hA4 := (HAX.out wd HLD.out).1
        have hA5 := (HAX.out X HLX.out).1
        have HX := Lib.hid hX
        clear BX
        refine wp_region_held (S := fun wx => wx.rangeAt w.heap.size 0 xc) (by kernel_rfl) ?_
        show Go.wpAnyH Try.prog Region.Mode.any _ _ _ _ _ _ W3.drew
        rw [← hwd]
        refine takeH (i := 0) (oi := _) (v := (.pointer (some ⟨g, 0, none⟩))) (fuel := 10) (some 29) rfl rfl (by kernel_rfl) (by kernel_rfl) (by kernel_rfl) (fun _ _ _ h => h) (.inl ⟨by rfl, fun wx hS => by simp [go_sem]⟩) hS ?_
        simp only [Act.put, List.setIfInBounds_toArray, List.set_cons_zero, List.set_cons_succ]
        refine takeH (i := 1) (oi := _) (v := (.pointer (some ⟨g, 0, none⟩))) (fuel := 9) (some 30) rfl rfl (by kernel_rfl) (by kernel_rfl) (by kernel_rfl) (fun _ _ _ h => h) (.inl ⟨by rfl, fun wx hS => by simp [go_sem]⟩) hS ?_
        simp only [Act.put, List.setIfInBounds_toArray, List.set_cons_zero, List.set_cons_succ]
        refine takeH (i := 2) (oi := _) (v := (.pointer (some ⟨g, 0, none⟩))) (fuel := 8) (some 31) rfl rfl (by kernel_rfl) (by kernel_rfl) (by kernel_rfl) (fun _ _ _ h => h) (.inl ⟨by rfl, fun wx hS => by simp [go_sem]⟩) hS ?_
        simp only [Act.put, List.setIfInBounds_toArray, List.set_cons_zero, List.set_cons_succ]
        refine takeH (i := 3) (oi := _) (v := (.pointer (some ⟨g, 1, none⟩))) (fuel := 7) (some 32) rfl rfl (by kernel_rfl) (by kernel_rfl) (by kernel_rfl) (fun _ _ _ h => h) (.inl ⟨by rfl, fun wx hS => by simp [go_sem]⟩) hS ?_
        simp only [Act.put, List.setIfInBounds_toArray, List.set_cons_zero, List.set_cons_succ]
        refine takeH (i := 5) (oi := _) (v := (.agg xc.toArray)) (fuel := 6) (some 34) rfl rfl (by kernel_rfl) (by kernel_rfl) (by kernel_rfl) (fun _ _ _ h => h) (yieldsIf_load_mid (by rfl) 59 (.tmp 8) rfl w.heap.size 0 rfl xc _ (fun wx hS => hS) hu rfl (by rw [HXL.out]; exact info_wri)) hS ?_
        simp only [Act.put, List.setIfInBounds_toArray, List.set_cons_zero, List.set_cons_succ]
        refine wpAnyH_all (fuel := 5) (rs := [4, 6]) (by kernel_rfl) (by simp) (fun i hi => ?_)
        simp only [List.mem_cons, List.not_mem_nil, or_false] at hi
        rcases hi with rfl | rfl
        · refine runH (some 33) _ rfl rfl (by rfl) (.slice A dn c) (by simp [go_sem, hA4]) ⟨hS, ?_⟩
          simp only [Act.put, List.setIfInBounds_toArray, List.set_cons_zero, List.set_cons_succ]
          refine allH [6] 6 (fuel := 4) (by kernel_rfl) ?_
          refine runH (some 35) _ rfl rfl (by rfl) (.slice (some ⟨W3.heap.size, 0, none⟩) 1 1) (exec_lit 51 (.tmp 34) rfl (.agg xc.toArray) _ rfl ((HR1.out wd).trans (by rw [HWS.out, ← HX.out]))) ⟨HSX.out, ?_⟩
          simp only [Act.put, List.setIfInBounds_toArray, List.set_cons_zero, List.set_cons_succ]
          have hS := HSX.out
          refine allH [7] 7 (fuel := 3) (by kernel_rfl) ?_
          refine appH (some 36) _ rfl rfl (by rfl) (.tmp 33) (.tmp 35) 51 rfl L 59 i1 _ 65 72 Try.underlying51 HI.out.1 HI.out.2.1 HI.out.2.2.1 HI.out.2.2.2 HZ65.out (by decide) (.slice A dn c) dn (wcs D.w) (by rfl) (HAX.out X HLX.out).2.1 X.heap.size (some ⟨W3.heap.size, 0, none⟩) 1 xc 1 (by rfl) (by rw [HXL.out]) (HSE.out X HBX.out) HON6.out HD63.out HD64.out (Nat.le_trans HLW.out HLX.out.size) ?_
          intro A3 c3 w6 hr6 hb6 hg6 hat6
          obtain ⟨r', H7, T7, R7⟩ := HPU.out X w6 A3 c3 HLX.out hg6 hr6 hat6
          obtain ⟨fz, cz⟩ := HFC.out X w6 HLX.out hg6
          have hS6 := HS6.out w6 hg6
          have hS7 := HS7.out w6 A3 c3 hg6
          clear hr6 hb6 hg6 hat6 hS
          have hS := hS6
          refine ⟨hS, ?_⟩
          simp only [Act.put, List.setIfInBounds_toArray, List.set_cons_zero, List.set_cons_succ]
          refine takeH (i := 8) (oi := _) (v := (.pointer (some ⟨g, 0, none⟩))) (fuel := 2) (some 37) rfl rfl (by kernel_rfl) (by kernel_rfl) (by kernel_rfl) (fun _ _ _ h => h) (.inl ⟨by rfl, fun wx hS => by simp [go_sem]⟩) hS ?_
          simp only [Act.put, List.setIfInBounds_toArray, List.set_cons_zero, List.set_cons_succ]
          refine takeH (i := 9) (oi := _) (v := (.pointer (some ⟨g, 1, none⟩))) (fuel := 1) (some 38) rfl rfl (by kernel_rfl) (by kernel_rfl) (by kernel_rfl) (fun _ _ _ h => h) (.inl ⟨by rfl, fun wx hS => by simp [go_sem]⟩) hS ?_
          simp only [Act.put, List.setIfInBounds_toArray, List.set_cons_zero, List.set_cons_succ]
          refine allH [10] 10 (fuel := 0) (by kernel_rfl) ?_
          refine store1H _ rfl rfl (by rfl) 51 (.tmp 38) (.tmp 36) rfl g 1 _ (.slice A3 (dn + 1) c3) rfl rfl (fun w => by kernel_rfl) (fun cs => by simp) rfl cz fz ⟨hS7, ?_⟩
          refine wpAnyH_done (by kernel_rfl) ?_ 0
          have H7 := Lib.hid H7
          have T7 := Lib.hid T7
          have R7 := Lib.hid R7
          have HFZ := Lib.hid (step_any L g b r' { D with w := D.w ++ [x] } _ H7.out HFU.out)
          clear fz cz hS hS6 hS7
          go_wp2_with fail
          refine HFZ.out.mono ?_
          rintro e w8 ⟨rfl, H8, T8⟩
          have H8 := Lib.hid H8
          have T8 := Lib.hid (T7.out.trans T8 R7.out)
          clear HFZ
          go_wp2_with fail
          go_ret
          exact ⟨by rw [HR.out]; rfl, r', by rw [HR.out]; exact H8.out, T8.out, R7.out⟩
        · refine runH (some 35) _ rfl rfl (by rfl) (.slice (some ⟨W3.heap.size, 0, none⟩) 1 1) (exec_lit 51 (.tmp 34) rfl (.agg xc.toArray) _ rfl ((HR1.out wd).trans (by rw [HWS.out, ← HX.out]))) ⟨HSX.out, ?_⟩
          simp only [Act.put, List.setIfInBounds_toArray, List.set_cons_zero, List.set_cons_succ]
          have hS := HSX.out
          refine allH [4] 4 (fuel := 4) (by kernel_rfl) ?_
          refine runH (some 33) _ rfl rfl (by rfl) (.slice A dn c) (by simp [go_sem, hA5]) ⟨hS, ?_⟩
          simp only [Act.put, List.setIfInBounds_toArray, List.set_cons_zero, List.set_cons_succ]
          refine allH [7] 7 (fuel := 3) (by kernel_rfl) ?_
          refine appH (some 36) _ rfl rfl (by rfl) (.tmp 33) (.tmp 35) 51 rfl L 59 i1 _ 65 72 Try.underlying51 HI.out.1 HI.out.2.1 HI.out.2.2.1 HI.out.2.2.2 HZ65.out (by decide) (.slice A dn c) dn (wcs D.w) (by rfl) (HAX.out X HLX.out).2.1 X.heap.size (some ⟨W3.heap.size, 0, none⟩) 1 xc 1 (by rfl) (by rw [HXL.out]) (HSE.out X HBX.out) HON6.out HD63.out HD64.out (Nat.le_trans HLW.out HLX.out.size) ?_
          intro A3 c3 w6 hr6 hb6 hg6 hat6
          obtain ⟨r', H7, T7, R7⟩ := HPU.out X w6 A3 c3 HLX.out hg6 hr6 hat6
          obtain ⟨fz, cz⟩ := HFC.out X w6 HLX.out hg6
          have hS6 := HS6.out w6 hg6
          have hS7 := HS7.out w6 A3 c3 hg6
          clear hr6 hb6 hg6 hat6 hS
          have hS := hS6
          refine ⟨hS, ?_⟩
          simp only [Act.put, List.setIfInBounds_toArray, List.set_cons_zero, List.set_cons_succ]
          refine takeH (i := 8) (oi := _) (v := (.pointer (some ⟨g, 0, none⟩))) (fuel := 2) (some 37) rfl rfl (by kernel_rfl) (by kernel_rfl) (by kernel_rfl) (fun _ _ _ h => h) (.inl ⟨by rfl, fun wx hS => by simp [go_sem]⟩) hS ?_
          simp only [Act.put, List.setIfInBounds_toArray, List.set_cons_zero, List.set_cons_succ]
          refine takeH (i := 9) (oi := _) (v := (.pointer (some ⟨g, 1, none⟩))) (fuel := 1) (some 38) rfl rfl (by kernel_rfl) (by kernel_rfl) (by kernel_rfl) (fun _ _ _ h => h) (.inl ⟨by rfl, fun wx hS => by simp [go_sem]⟩) hS ?_
          simp only [Act.put, List.setIfInBounds_toArray, List.set_cons_zero, List.set_cons_succ]
          refine allH [10] 10 (fuel := 0) (by kernel_rfl) ?_
          refine store1H _ rfl rfl (by rfl) 51 (.tmp 38) (.tmp 36) rfl g 1 _ (.slice A3 (dn + 1) c3) rfl rfl (fun w => by kernel_rfl) (fun cs => by simp) rfl cz fz ⟨hS7, ?_⟩
          refine wpAnyH_done (by kernel_rfl) ?_ 0
          have H7 := Lib.hid H7
          have T7 := Lib.hid T7
          have R7 := Lib.hid R7
          have HFZ := Lib.hid (step_any L g b r' { D with w := D.w ++ [x] } _ H7.out HFU.out)
          clear fz cz hS hS6 hS7
          go_wp2_with fail
          refine HFZ.out.mono ?_
          rintro e w8 ⟨rfl, H8, T8⟩
          have H8 := Lib.hid H8
          have T8 := Lib.hid (T7.out.trans T8 R7.out)
          clear HFZ
          go_wp2_with fail
          go_ret
          exact ⟨by rw [HR.out]; rfl, r', by rw [HR.out]; exact H8.out, T8.out, R7.out⟩
      · have HR : Hid (dwrite D a l = (D, 1)) := Lib.hid (by unfold dwrite; rw [hd, hs, ← HN.out, if_neg (by simp), if_neg (fun h => h64 h.2)])
        have n64 : ((n : Int) != 64) = true := by rw [bne_iff_ne]; omega
        have HH := Lib.hid h
        clear h hd hs h64
        go_enter Try.func11, Try.ntmps11
        go_wp2_with fail
        refine HRD.out.mono ?_
        rintro e w1 ⟨rfl, rfl⟩
        go_wp2_with fail
        refine HHS.out.mono ?_
        rintro e w1 ⟨rfl, rfl⟩
        go_wp2_with fail
        go_ret
        exact ⟨by rw [HR.out]; rfl, r, by rw [HR.out]; exact HH.out, Turn3.refl _ _ _ _, RowN.refl _ _⟩
end Go.Proofs.Ytjnfdhjnfginpaa
