/- How deep a filter is: what the program returns. -/
import Derived.Test.YtadmaalhhigbeaaPrdE
import Derived.Test.YtadmaalhhigbeaaCardB
namespace Go.Proofs.Ytadmaalhhigbeaa
set_option linter.unusedVariables false
set_option linter.unusedSimpArgs false
open Go Go.RowKit Go.Shelf
attribute [local go_sem] Oper.semAt_some

/-- The depths of what was seen, as the program holds them: the last seen on top, at the end. -/
def seenI (l : List Nd) : List Int := ((stk l).map fun d : Nat => (d : Int)).reverse
theorem foldl_max_int (l : List Nat) (a : Nat) : (l.map fun d : Nat => (d : Int)).foldl max (a : Int) = ((l.foldl max a : Nat) : Int) := by
  induction l generalizing a with
  | nil => rfl
  | cons x l ih =>
    simp only [List.map_cons, List.foldl_cons]
    rw [show max (a : Int) (x : Int) = ((max a x : Nat) : Int) by omega]
    exact ih _
theorem foldl_max_rev (l : List Int) (a : Int) : l.reverse.foldl max a = l.foldl max a := by
  have hc : ∀ (l : List Int) (a b : Int), l.foldl max (max a b) = max (l.foldl max a) b := by
    intro l
    induction l with
    | nil => intro a b; rfl
    | cons x l ih =>
      intro a b
      simp only [List.foldl_cons]
      rw [show max (max a b) x = max (max a x) b by omega]
      exact ih _ _
  induction l generalizing a with
  | nil => rfl
  | cons x l ih =>
    rw [List.reverse_cons, List.foldl_append, ih]
    show max (l.foldl max a) x = l.foldl max (max a x)
    rw [hc]
/-- One node more is seen. -/
theorem seen_step {l : List Nd} {x k' : Nat} (hx : x < l.length) (h : Wood (l.drop x) k') : ∃ j, (seenI (l.drop (x + 1))).length = j + par l[x].1 ∧
    seenI (l.drop x) = (seenI (l.drop (x + 1))).take j ++ [((seenI (l.drop (x + 1))).drop j).foldl max 0 + 1] := by
  rw [List.drop_eq_getElem_cons hx] at h ⊢
  obtain ⟨j, _, h1⟩ := wood_cons h
  have hl := stk_len h1
  refine ⟨j, by simp [seenI, hl], ?_⟩
  have e1 : (seenI (l.drop (x + 1))).take j = (((stk (l.drop (x + 1))).drop (par l[x].1)).map fun d : Nat => (d : Int)).reverse := by
    unfold seenI
    rw [List.take_reverse, List.length_map, hl, show j + par l[x].1 - j = par l[x].1 by omega, List.map_drop]
  have e2 : (seenI (l.drop (x + 1))).drop j = (((stk (l.drop (x + 1))).take (par l[x].1)).map fun d : Nat => (d : Int)).reverse := by
    unfold seenI
    rw [List.drop_reverse, List.length_map, hl, show j + par l[x].1 - j = par l[x].1 by omega, List.map_take]
  rw [e1, e2, foldl_max_rev]
  have := foldl_max_int ((stk (l.drop (x + 1))).take (par l[x].1)) 0
  rw [show ((0 : Nat) : Int) = 0 from rfl] at this
  rw [this]
  unfold seenI
  rw [stk_cons, List.map_cons, List.reverse_cons]
  rfl
theorem seen_small (l : List Nd) : ∀ d ∈ seenI l, 0 ≤ d ∧ d ≤ l.length := by
  intro d hd
  simp only [seenI, List.mem_reverse, List.mem_map] at hd
  obtain ⟨e, he, rfl⟩ := hd
  have := stk_lt l e he
  omega
theorem stk_le (l : List Nd) : (stk l).length ≤ l.length := by
  induction l with
  | nil => exact Nat.le_refl _
  | cons x l ih => rw [stk_cons, List.length_cons, List.length_drop, List.length_cons]; omega
theorem foldl_max_le (l : List Int) (a b : Int) (ha : a ≤ b) (h : ∀ d ∈ l, d ≤ b) : l.foldl max a ≤ b := by
  induction l generalizing a with
  | nil => exact ha
  | cons x l ih =>
    have := h x (by simp)
    exact ih _ (by omega) (fun d hd => h d (List.mem_cons_of_mem _ hd))
theorem foldl_max_ge (l : List Int) (a : Int) : a ≤ l.foldl max a := by
  induction l generalizing a with
  | nil => exact Int.le_refl _
  | cons x l ih => exact Int.le_trans (by omega) (ih (max a x))
/-- A row cut behind j. -/
theorem Own.cutTo {w : World} {base : Nat} {e : TypeId} {A : Option Addr} {n c : Nat} {xs : List Value} (h : Own w base e (.slice A n c) xs) (j : Nat) (hj : j ≤ n) : Own w base e (.slice A j c) (xs.take j) := by
  obtain ⟨A', c', hv⟩ := h.form
  injection hv with h1 h2 h3
  subst h2
  have hl : (xs.take j).length = j := by rw [List.length_take]; omega
  refine ⟨by rw [hl]; omega, ?_⟩
  rw [hl]
  rcases h.2 with ⟨hv0, h0⟩ | ⟨g, cap, cur, hv0, hb, hh, hnc, hcm, hcs, ht⟩
  · injection hv0 with e1 e2 e3
    subst e1 e3
    exact .inl ⟨by rw [show j = 0 by omega], by omega⟩
  · injection hv0 with e1 e2 e3
    subst e1 e3
    refine .inr ⟨g, c, cur, rfl, hb, hh, by omega, hcm, hcs, ?_⟩
    rw [← ht, List.take_take]
    congr 1
    omega
theorem ownto_run {P : Program} (t e : TypeId) (i : TypeInfo) (ht : P.underlying t = some (.slice e)) (hi : P.info? e = some i) (hsz : i.size = 1) (A : Option Addr) (n m c : Nat) (H : Int) (kh : IntKind) (hm : m ≤ n) (hH : H = (m : Int)) (hc : n ≤ c) (wx : World) :
    (Instr.slice t (.slice A n c) none (some (.int kh H)) none).run P wx = .ok (.slice A m c) wx := by
  have he : P.elem t = e := by simp [Program.elem, ht]
  have ht' : P.underlying t = some (.slice (P.elem t)) := by rw [he]; exact ht
  have hA : (if c = 0 then A else A.map (·.add 0)) = A := by
    cases A with
    | none => simp
    | some a => simp [Addr.add]
  rw [run_slice_h wx t A n c ht' kh H (by omega) (by omega), he]
  simp [sizeOf, typeInfo, hi, hsz, sliced, hH]
  intro h
  rw [if_neg h] at hA
  exact hA
/-- What an append into a row behind a box leaves, with later worlds between; the row may have been cut. -/
theorem appended_cut {W w1 w2 : World} {n₀ B : Nat} {t e : TypeId} {u v v' : Value} {xs ys : List Value} (hv : Boxed W B t u) (hte : t ≠ e) (hrow : Own w1 n₀ e v xs) (hn₀ : n₀ ≤ W.heap.size) (hB : n₀ ≤ B) (hl : Le W w1)
    (hown' : Own w2 n₀ e v' ys) (hgrow : w1.grownBy w2 v.ownBlock) :
    Boxed w2 B t u ∧ Boxed (w2.setCell ⟨B, 0, none⟩ v') B t v' ∧ Own (w2.setCell ⟨B, 0, none⟩ v') n₀ e v' ys ∧ KeepsOthers W (w2.setCell ⟨B, 0, none⟩ v') ∧ Below n₀ W (w2.setCell ⟨B, 0, none⟩ v') := by
  have hv0 : Boxed w1 B t u := (hl.block B hv.lt).trans hv
  have hv1 : Boxed w2 B t u := hv0.kept hgrow (hv0.not_row hte hrow)
  have hk1 : KeepsOthers W w1 := ⟨hl.size, fun k o hk _ => (hl.block k (Array.getElem?_eq_some_iff.1 hk).1).trans hk⟩
  refine ⟨hv1, hv1.set v', World.ownsRow.kept hown' (grownBy_setCell' w2 B v') (.inr (hv1.not_row hte hown').symm), ?_, ?_⟩
  · refine (hk1.trans (KeepsOthers.of_grownBy hgrow fun j o ej hj => ?_)).trans (KeepsOthers.setCell _ _ _)
    rcases hrow.2 with ⟨rfl, _⟩ | ⟨g, cap, cur, rfl, _, hgb, _⟩
    · simp [Value.ownBlock] at ej
    · obtain rfl : g = j := by simpa [Value.ownBlock] using ej
      rw [hgb] at hj; cases hj; rfl
  · refine ((((Below.refl n₀ W).trans (Below.mono hl hn₀)).grown hgrow (Nat.le_trans hn₀ hl.size) fun j ej => ?_)).setCell (p := ⟨B, 0, none⟩) hB v'
    exact (hrow.lt j ej).1
theorem znode : (ncells zn).toArray = #[Value.int .i64 0, .int .i64 0, .int .i64 0, .int .i64 0, .string { data := #[] }] := rfl

set_option maxRecDepth 100000 in
set_option maxHeartbeats 8000000 in
theorem depth_wood (A : Option Addr) (n c : Nat) (l : List Nd) (w : World) (hn : l.length = n) (hs : Sees w w.heap.size A (ncs l)) (hm : n ≤ 65536) (hw : Wood l 1) :
    Calls Try.prog 64 #[.slice A n c] w fun e w' => e = .returned (.int .i64 (dep l)) ∧ Below w.heap.size w w' := by
  obtain ⟨i0, hi, hz0, hz1, hz2⟩ := info_parts info_int
  have hu := Try.underlying71
  have HE := Lib.hid (fun wx (h : Sees wx w.heap.size A (ncs l)) => end_any A n c l 0 wx w.heap.size hn h hm)
  rw [show endAt l 0 = (n : Int) by rw [(wood_end l).2 hw, hn]] at HE
  have HW := Lib.hid hw
  have HN := Lib.hid hn
  clear hw hn
  refine (callsIn_wide (n := 5)).1 ?_
  refine callsIn_of_wp_marks Try.func64 rfl trivial ?_ rfl
  simp only [Try.ntmps64, List.size_toArray, List.length_cons, List.length_nil, Nat.reduceAdd, Nat.reduceSub, Array.replicate_succ, Array.replicate_zero, List.push_toArray, List.append_toArray, List.nil_append, List.cons_append]
  gi_wp2_with fail
  refine ⟨trivial, (callsIn_wide.2 (HE.out _ hs)).mono ?_⟩
  rintro e w1 ⟨rfl, rfl⟩
  gi_wp2_with fail
  refine ⟨trivial, (callsIn_wide.2 (back_any A n c _)).mono ?_⟩
  rintro e w1 ⟨rfl, rfl⟩
  gi_wp2
  have hB0 : Below w.heap.size w ((w.alloc (.cells #[.slice none 0 0] 76)).alloc (.cells #[.slice A n c] 23)) := ((Below.refl _ w).alloc (Nat.le_refl _) _).alloc (by simp) _
  have bO : Boxed ((w.alloc (.cells #[.slice none 0 0] 76)).alloc (.cells #[.slice A n c] 23)) w.heap.size 76 (.slice none 0 0) := (Boxed.new w 76 (.slice none 0 0)).alloc _
  have bE := Boxed.new (w.alloc (.cells #[.slice none 0 0] 76)) 23 (.slice A n c)
  have hsz : ((w.alloc (.cells #[.slice none 0 0] 76)).alloc (.cells #[.slice A n c] 23)).heap.size = w.heap.size + 2 := by simp
  obtain ⟨W0, hW0⟩ : ∃ W0, (w.alloc (.cells #[.slice none 0 0] 76)).alloc (.cells #[.slice A n c] 23) = W0 := ⟨_, rfl⟩
  rw [hW0] at hB0 bO bE hsz ⊢
  have hsz1 : (w.alloc (.cells #[.slice none 0 0] 76)).heap.size = w.heap.size + 1 := by simp
  rw [hsz1] at bE
  clear hW0 hsz1
  have HSB : Hid (∀ wx : World, Below w.heap.size w wx → Sees wx w.heap.size A (ncs l)) := Lib.hid (fun wx h => hs.below h)
  refine wpIn_rangeFunc_box (F := Fence.wide) rfl (by omega) (gf := 102) (lb := #[.pointer (some ⟨w.heap.size + 1, 0, none⟩)]) rfl trivial (enters_of Try.func102 (by kernel_rfl) rfl)
    (back_stops (5 - 1) (by omega) (w.heap.size + 1) w.heap.size A n c l W0 HN.out hm (by omega) (by omega) bE.cell (hs.below hB0)) (fun h k => h.trans k)
    (fun W l o o' hl h h1 h2 => ⟨belowK_b (w := W0) (n₀ := w.heap.size) (by omega) W l o o' hl h h1 h2, (belowK_b (w := W0) (n₀ := w.heap.size + 2) (by omega) W l o o' hl h h1 h2).cell (p := ⟨w.heap.size + 1, 0, none⟩) (by show w.heap.size + 1 < w.heap.size + 2; omega)⟩) (Below.refl _ _) (fun _ => rfl)
    (fun pre W => ((∃ v, Boxed W w.heap.size 76 v ∧ W.ownsRow w.heap.size 3 1 v (ivs (seenI (l.drop (n - pre.length)))).length (ivs (seenI (l.drop (n - pre.length)))) ∧ True) ∧ Boxed W (w.heap.size + 1) 23 (.slice A n c)) ∧ Below w.heap.size w W)
    (fun _ _ _ => False)
    (OwnFrom.and (Own.from (fun s X Y row hs hg hr => ⟨holdsRow_own w.heap.size w.heap.size 76 3 1 (fun pre : List Nat => (ivs (seenI (l.drop (n - pre.length)))).length) (fun pre => ivs (seenI (l.drop (n - pre.length)))) (fun _ _ => True) s X Y row hs.1 hg hr, boxed_own (w.heap.size + 1) 23 (fun _ : List Nat => Value.slice A n c) s X Y row hs.2 hg hr⟩) _) (ownFrom_below (Nat.le_refl _) hB0.size))
    (fun _ _ _ _ _ hs _ _ => hs)
    ⟨⟨⟨_, bO, by have : l.drop n = [] := List.drop_of_length_le (by rw [HN.out]; exact Nat.le_refl _); simp only [List.length_nil, Nat.sub_zero, this]; exact World.ownsRow_nil _ _ _ _, trivial⟩, bE⟩, hB0⟩
    (fun x a' W => ∃ Bx, w.heap.size + 2 ≤ Bx ∧ Blk W Bx (ncells (l.getD x zn)) ∧
      a' = { tmps := #[.slice A n c, undef, .int .i64 0, .pointer (some ⟨w.heap.size, 0, none⟩), undef, .pointer (some ⟨Bx, 0, none⟩), undef, undef, undef, undef, .slice A n c, .int .i64 n, .slice A n c, .int .i64 n, .bool false, .slice A n c, .func (.func 102) #[] #[.pointer (some ⟨w.heap.size + 1, 0, none⟩)], .int .i64 (x : Int), .agg (ncells (l.getD x zn)).toArray, undef, undef, undef, undef, undef, undef, undef, undef, undef, undef, undef, undef, undef, undef, undef, undef, undef, undef, undef, undef, undef, undef, undef, undef, undef, undef, undef, undef], defers := [] })
    (fun x a' s X Y row hs hg hr => by
      obtain ⟨Bx, h1, ⟨tt, h2⟩, h3⟩ := hs
      refine ⟨Bx, h1, ⟨tt, (hg.block Bx (Array.getElem?_eq_some_iff.1 h2).1 (fun e => ?_)).trans h2⟩, h3⟩
      obtain ⟨_, o, ho, hc⟩ := hr Bx e.symm
      rw [h2] at ho
      cases ho
      cases hc)
    ?assign ?body ?done ?stop
  case assign =>
    rintro lp pre x W K hpr ⟨⟨⟨v, hv, hrow, _⟩, hX⟩, hB⟩ hK
    have BN := Blk.new W (ncells zn) 71
    have TH := BN.there 0 5 (by decide)
    have HSZ := Lib.hid (show (ncells (l.getD x zn)).length = 5 from rfl)
    have HONE := Lib.hid (show ∀ v ∈ ncells (l.getD x zn), v.oneCell' = true from fun v hv => ncs_one [l.getD x zn] v (by simpa [ncs] using hv))
    have FIN : Hid (Blk ((W.alloc (.cells (ncells zn).toArray 71)).setCells W.heap.size 0 (ncells (l.getD x zn))) W.heap.size (ncells (l.getD x zn))) := Lib.hid (by
      have h := BN.sets (ncells (l.getD x zn)) 0 (by rw [ncells_len, ncells_len]; exact Nat.le_refl 5)
      simpa [ncells] using h)
    have G1 : Hid (W.grownBy ((W.alloc (.cells (ncells zn).toArray 71)).setCells W.heap.size 0 (ncells (l.getD x zn))) none) := Lib.hid (by
      have h1 := grown_sets W.heap.size (ncells (l.getD x zn)) 0 (W.alloc (.cells (ncells zn).toArray 71))
      refine ⟨h1.os, h1.tape, h1.output, Nat.le_trans (by simp) h1.size, fun k hk _ => ?_⟩
      exact (h1.block k (by simp; omega) (fun e => by injection e with e; omega)).trans (Below.heap_alloc W _ k hk))
    have GE : Hid (w.heap.size + 2 ≤ W.heap.size) := Lib.hid (by have := hX.lt; omega)
    obtain ⟨nc, hnc⟩ : ∃ nc, nc = ncells (l.getD x zn) := ⟨_, rfl⟩
    rw [← hnc] at HSZ HONE FIN G1 hK ⊢
    clear hnc
    rw [znode] at TH FIN G1
    gi_wp2_with (first
      | (refine wpListIn_store rfl 71 (.tmp 5) (.tmp 18) rfl W.heap.size 0 nc.toArray rfl rfl (by simpa [HSZ.out] using TH) (by simpa [HSZ.out] using info_node) (all_oneCell_toArray HONE.out) ?_)
      | fail)
    have g1 := G1.out
    refine hK _ _ ((KeepsOthers.of_grownBy g1 (fun j o e => by cases e)).from _) ⟨(Below.refl _ W).grown g1 hB.size (fun k e => by cases e), World.cell?_of_block (g1.block _ hX.lt (by simp))⟩ ⟨⟨⟨v, hv.kept g1 (by simp), hrow.kept g1 (by by_cases h : v.ownBlock = none; exact .inl h; exact .inr h), trivial⟩, hX.kept g1 (by simp)⟩, hB.grown g1 hB.size (fun k e => by cases e)⟩ ⟨W.heap.size, GE.out, FIN.out, rfl⟩
  case body =>
    rintro lp pre x a' W hlp ⟨r, hr⟩ ⟨hpre, hxm⟩ ⟨⟨⟨v, hv, hrow, _⟩, hX⟩, hB⟩ ⟨Bx, hBx, hN, rfl⟩ hlt
    generalize (ncells (l.getD x zn)).toArray = na
    have hxl : x < l.length := by rw [HN.out]; omega
    have hgd : l.getD x zn = l[x] := by simp [hxl]
    obtain ⟨k', hk'⟩ := wood_drop HW.out x (by omega)
    obtain ⟨j, hj1, hj2⟩ := seen_step hxl hk'
    have hdr : n - pre.length = x + 1 := by omega
    have hdr2 : n - (pre ++ [x]).length = x := by simp; omega
    rw [hdr] at hrow
    have hsm := seen_small (l.drop (x + 1))
    have hsl : (l.drop (x + 1)).length ≤ 65536 := by rw [List.length_drop, HN.out]; omega
    obtain ⟨s, hs0⟩ : ∃ s, s = seenI (l.drop (x + 1)) := ⟨_, rfl⟩
    rw [← hs0] at hrow hj1 hj2 hsm
    have HNEW : Hid (seenI (l.drop (n - (pre ++ [x]).length)) = s.take j ++ [(s.drop j).foldl max 0 + 1]) := Lib.hid (by rw [hdr2]; exact hj2)
    have hNc : Blk W Bx (ncells l[x]) := by rw [← hgd]; exact hN
    have HP := Lib.hid (fun wx : World => (parts_any l[x].1 wx).mono fun e w' h => (show e = .returned (.int .i64 (par l[x].1)) ∧ Below wx.heap.size wx w' from ⟨h.1, h.2 ▸ Below.refl _ _⟩))
    have hop : ∀ kk : LW W, kk.val.cell? ⟨Bx, 0, none⟩ = some (.int .i64 l[x].1) := fun kk => (kk.le.cell (p := ⟨Bx, 0, none⟩) hNc.lt).trans (hNc.cell (j := 0) rfl)
    have hp2 := par_le l[x].1
    obtain ⟨op, hop0⟩ : ∃ op, op = l[x].1 := ⟨_, rfl⟩
    rw [← hop0] at HP hop hj1 hp2
    obtain ⟨p, hp0⟩ : ∃ p, p = par op := ⟨_, rfl⟩
    rw [← hp0] at HP hj1 hp2
    have HO : Own W w.heap.size 3 v (ivs s) := hrow
    obtain ⟨A1, c1, hvf⟩ := HO.form
    obtain ⟨k, hk0⟩ : ∃ k, k = (ivs s).length := ⟨_, rfl⟩
    rw [← hk0] at hvf
    subst hvf
    rw [ivs_length] at hk0
    have HKJ := Lib.hid (show k = j + p by omega)
    have hk65 : k ≤ 65540 := by
      have := stk_le (l.drop (x + 1))
      have h2 : s.length = (stk (l.drop (x + 1))).length := by rw [hs0]; simp [seenI]
      omega
    have hcap := HO.cap
    have HSM : Hid (∀ d ∈ s, 0 ≤ d ∧ d ≤ 65536) := Lib.hid (fun d hd => by have := hsm d hd; omega)
    have HKS : Hid (s.length = k) := Lib.hid hk0.symm
    have hle : w.heap.size ≤ W.heap.size := hB.size
    have hP : ∀ kk : LW W, kk.val.cell? ⟨w.heap.size, 0, none⟩ = some (.slice A1 k c1) := fun kk => (kk.le.cell (p := ⟨w.heap.size, 0, none⟩) hv.lt).trans hv.cell
    clear hrow hsm hsl hk0 hj1 hj2 hs0 hp0 hop0 hdr hdr2 hgd hN hNc hk'
    gi_wp2
    refine wpIn_region_steady (free_round lp _ _) (by kernel_rfl) [] 47 (by kernel_rfl) (by kernel_rfl) (by kernel_rfl) (by rfl) ?_
    iterate 4 (refine wpG_quiet (by rfl) (by rfl) (by rfl) (fun K hK => ?_); go_big_quiet_op; refine hK _ ?_; clear hK K)
    refine wpG_call (by rfl) (by rfl) 90 #[.int .i64 op] (.int .i64 p) (by intro _; simp [go_sem]) (by kernel_rfl) (fun w1 hl => HP.out w1) ?_
    simp only [Act.put, List.setIfInBounds_toArray, List.set_cons_zero, List.set_cons_succ]
    iterate 3 (refine wpG_quiet (by rfl) (by rfl) (by rfl) (fun K hK => ?_); go_big_quiet_op; refine hK _ ?_; clear hK K)
    refine wpG_nil fun w1 hl _ => ?_
    have ekj : ((k : Int) - (p : Int)) = (j : Int) := by have := HKJ.out; omega
    rw [ekj]
    have HO1 : Own w1 w.heap.size 3 (.slice A1 k c1) (ivs s) := World.ownsRow.kept HO ⟨hl.os, hl.tape, hl.output, hl.size, fun q hq _ => hl.block q hq⟩ (by by_cases h : (Value.slice A1 k c1).ownBlock = none; exact .inl h; exact .inr h)
    have hv1 : Boxed w1 w.heap.size 76 (.slice A1 k c1) := (hl.block _ hv.lt).trans hv
    have hX1 : Boxed w1 (w.heap.size + 1) 23 (.slice A n c) := (hl.block _ hX.lt).trans hX
    have hle1 : w.heap.size ≤ w1.heap.size := Nat.le_trans hle hl.size
    obtain ⟨A2, hsl1, hse1⟩ := cut_fact 76 3 i0 Try.underlying76 hi hz1 HO1.sees k p j c1 (j : Int) .i64 (by rw [ivs_length, HKS.out]) (by have := HKJ.out; omega) rfl hcap.1
    have hsl2 := ownto_run (P := Try.prog) 76 3 i0 Try.underlying76 hi hz1 A1 k j c1 (j : Int) .i64 (by have := HKJ.out; omega) rfl hcap.1
    have HO2 := HO1.cutTo j (by have := HKJ.out; omega)
    have hc1 := hv1.cell
    have hse2 : Sees w1 w1.heap.size A2 (ivs (s.drop j)) := by unfold ivs at hse1 ⊢; rw [List.map_drop]; exact hse1
    have HPL : Hid ((s.drop j).length = p) := Lib.hid (by rw [List.length_drop, HKS.out]; have := HKJ.out; omega)
    have HSM2 : Hid (∀ d ∈ s.drop j, 0 ≤ d ∧ d ≤ 65536) := Lib.hid (fun d hd => HSM.out d (List.mem_of_mem_drop hd))
    obtain ⟨q, hq0⟩ : ∃ q, q = s.drop j := ⟨_, rfl⟩
    rw [← hq0] at hse2 HPL HSM2 HNEW
    clear ekj hse1 HO hP hop HP hq0 HSM hlt
    gi_wp2_with fail
    gi_loopw [29, 6] (fun i d wr => ∃ y : Nat, y ≤ p ∧ i = .int .i64 y ∧ (∃ D : Int, d = .int .i64 D ∧ Hid (D = (q.take y).foldl max 0)) ∧ wr = w1) (fun i _ _ => p - (intOf i).toNat)
    case atStart => exact ⟨0, by omega, rfl, ⟨0, rfl, Lib.hid rfl⟩, rfl⟩
    case round =>
      obtain ⟨y, hy, rfl, ⟨D, rfl, HD⟩, rfl⟩ := hrel
      by_cases hyp : y < p
      · have hyl : y < q.length := by rw [HPL.out]; exact hyp
        obtain ⟨b2, o2, rfl, hb2, hc2⟩ := hse2.int y hyl
        obtain ⟨d, hd0⟩ : ∃ d, d = q[y] := ⟨_, rfl⟩
        rw [← hd0] at hc2
        have HT : Hid ((q.take (y + 1)).foldl max 0 = max D d) := Lib.hid (by rw [List.take_succ_eq_append_getElem hyl, List.foldl_append, ← HD.out, hd0]; rfl)
        clear hd0
        gi_wp2_with fail
        all_goals
          go_roundw
          case rel => exact ⟨y + 1, by omega, by go_num, ⟨_, rfl, Lib.hid (by rw [HT.out]; omega)⟩, by first | rfl | trivial⟩
          case measure => simp [intOf]; omega
      · obtain rfl : y = p := by omega
        have HDD : Hid (D = q.foldl max 0) := Lib.hid (by rw [HD.out, List.take_of_length_le (by rw [HPL.out]; exact Nat.le_refl _)])
        have hD0 : 0 ≤ D := by rw [HDD.out]; exact foldl_max_ge q 0
        have hD1 : D ≤ 65536 := by rw [HDD.out]; exact foldl_max_le q 0 65536 (by omega) (fun d hd => (HSM2.out d hd).2)
        have HO3 : wr.ownsRow w.heap.size 3 1 (.slice A1 j c1) j ((ivs s).take j) := by
          have h := HO2
          unfold Own at h
          rwa [show ((ivs s).take j).length = j by rw [List.length_take, ivs_length, HKS.out]; have := HKJ.out; omega] at h
        have hx0 := hX1
        have HLE : Hid (Le W (wr.alloc (.cells #[.int .i64 (D + 1)] 3))) := Lib.hid (hl.trans ((Below.refl _ _).alloc (Nat.le_refl _) _))
        have HJB : Hid (j ≤ 65540) := Lib.hid (by have := HKJ.out; omega)
        gi_wp2_with (first
          | (gi_at_builtin
             refine wpListIn_append_own _ rfl (.tmp 39) (.tmp 42) 76 rfl w.heap.size 3 i0 (.int .i64 0) 1 8 Try.underlying76 hi hz0 hz1 hz2 rfl (by decide) (.slice A1 j c1) j ((ivs s).take j) rfl (HO3.alloc (.cells #[.int .i64 (D + 1)] 3)) ⟨wr.heap.size, 0, none⟩ 1 1 [.int .i64 (D + 1)] rfl rfl (cell_one_new _ _ _) (by simp [Value.oneCell']) (by have := HJB.out; unfold maxLen; omega) (by have := HJB.out; omega) (by simp; omega) ?_
             intro v' w2 hown' hgrow _
             obtain ⟨g', cap', rfl⟩ := ownsRow_succ hown'
             have hown2 : Own w2 w.heap.size 3 (.slice (some ⟨g', 0, none⟩) (j + 1) cap') ((ivs s).take j ++ [.int .i64 (D + 1)]) := by
               unfold Own
               rw [List.length_append, show ((ivs s).take j).length = j by rw [List.length_take, ivs_length, HKS.out]; have := HKJ.out; omega]
               exact hown'
             obtain ⟨k1, k2, k3, k4, k5⟩ := appended_cut hv (by decide) (World.ownsRow.alloc HO2 (.cells #[.int .i64 (D + 1)] 3)) hle (Nat.le_refl _) HLE.out hown2 hgrow
             have k1c := k1.cell
             have k1f := k1.frozen
             have x3 := ((hx0.alloc (.cells #[.int .i64 (D + 1)] 3)).kept hgrow ((hx0.alloc (.cells #[.int .i64 (D + 1)] 3)).not_row (by decide) (HO3.alloc (.cells #[.int .i64 (D + 1)] 3)))).other (B' := w.heap.size) (by omega) (.slice (some ⟨g', 0, none⟩) (j + 1) cap')
             clear hown' hown2 hgrow k1 HO3)
          | fail)
        refine ⟨k4.from _, ⟨k5, x3.cell.trans hX.cell.symm⟩, ⟨⟨_, k2, ?_, trivial⟩, x3⟩, hB.trans k5⟩
        rw [HNEW.out, ← HDD.out, ivs_append, show ivs (s.take j) = (ivs s).take j from by unfold ivs; rw [List.map_take]]
        exact k3
  case done =>
    rintro D ys W hD rfl ⟨⟨⟨v, hv, hrow, _⟩, hX⟩, hB⟩ hK
    have e1 : seenI (l.drop (n - (backs n n).length)) = [(dep l : Int)] := by
      rw [backs_len, Nat.sub_self, List.drop_zero]
      unfold seenI
      rw [dep_wood HW.out]
      rfl
    rw [e1] at hrow
    have HO : Own W w.heap.size 3 v (ivs [(dep l : Int)]) := hrow
    obtain ⟨A1, c1, hvf⟩ := HO.form
    subst hvf
    obtain ⟨g, rfl, hg2, hg3⟩ := HO.block (show 0 < (ivs [(dep l : Int)]).length from Nat.one_pos)
    have hcd := HO.cell 0 (show 0 < (ivs [(dep l : Int)]).length from Nat.one_pos)
    have hcd : W.cell? ⟨g, 0, none⟩ = some (.int .i64 (dep l : Int)) := hcd
    have hc0 := hv.cell
    obtain ⟨dd, hdd⟩ : ∃ dd, dd = dep l := ⟨_, rfl⟩
    rw [← hdd] at hcd
    have HDD := Lib.hid hdd
    have e2 : (ivs [(dep l : Int)]).length = 1 := rfl
    rw [e2] at hc0
    have hDs : D < W.heap.size := (Array.getElem?_eq_some_iff.1 hK).1
    clear hrow hX hv HO e1 hdd e2
    gi_wp2_with fail
    refine ⟨by simp, .inl ⟨_, _, rfl, run_takeDeferred hK, ?_⟩⟩
    exact ⟨_, results_tmp rfl _ _ _, by rw [← HDD.out]; rfl, hB.trans (belowK_b (w := w) (Nat.le_refl _) W D _ _ (by omega) hK rfl rfl)⟩
  case stop =>
    rintro D c pre W _ _ h _
    exact h.elim
set_option maxRecDepth 100000 in
set_option maxHeartbeats 1600000 in
theorem depth_any (A : Option Addr) (n c : Nat) (l : List Nd) (w : World) (hn : l.length = n) (hs : Sees w w.heap.size A (ncs l)) (hm : n ≤ 65536) :
    Calls Try.prog 64 #[.slice A n c] w fun e w' => e = .returned (.int .i64 (dep l)) ∧ Below w.heap.size w w' := by
  by_cases hw : Wood l 1
  · exact depth_wood A n c l w hn hs hm hw
  · have HE := Lib.hid (end_any A n c l 0 w w.heap.size hn hs hm)
    have b1 : (endAt l 0 != (n : Int)) = true := by
      rw [bne_iff_ne, ← hn]
      exact fun h => hw ((wood_end l).1 h)
    have HR := Lib.hid (dep_not hw)
    generalize endAt l 0 = z at HE b1
    clear hw hs hn
    go_enter Try.func64, Try.ntmps64
    go_wp2_with fail
    refine HE.out.mono ?_
    rintro e w1 ⟨rfl, rfl⟩
    go_wp2_with fail
    go_ret
    exact ⟨by rw [HR.out]; rfl, Below.refl _ _⟩
end Go.Proofs.Ytadmaalhhigbeaa
