/- The program's Show: a card, as it is with what waits. -/
import Derived.Test.YtjlpccdlpgkgoaaQeJ
namespace Go.Proofs.Ytjlpccdlpgkgoaa
set_option linter.unusedVariables false
set_option linter.unusedSimpArgs false
open Go Go.RowKit Go.Shelf BitM
attribute [local go_sem] Oper.semAt_some

/-- What one write makes of a version, labels and fields; what all do. -/
def shStep (s : Int × BitVec 32 × List V3) (x : Wr) : Int × BitVec 32 × List V3 := (nextVer s.1, if has x.2.2.1 8 then x.2.2.2.1 else s.2.1, mix (fun i => has x.2.2.1 (i : Int)) x.2.2.2.2 s.2.2)
def shv (s : Int × BitVec 32 × List V3) (pre : List Wr) : Int × BitVec 32 × List V3 := pre.foldl shStep s
theorem shv_snoc (s : Int × BitVec 32 × List V3) (pre : List Wr) (x : Wr) : shv s (pre ++ [x]) = shStep (shv s pre) x := by unfold shv; rw [List.foldl_append]; rfl
def shc (id : Int) (s : Int × BitVec 32 × List V3) : List Value := ccells id s.1 (s.2.1.toNat : Int) s.2.2
theorem shv_ok {s : Int × BitVec 32 × List V3} (h8 : s.2.2.length = 8) (h0 : 0 ≤ s.1) : ∀ (pre : List Wr), (shv s pre).2.2.length = 8 ∧ 0 ≤ (shv s pre).1 := fun pre => by
  have key : ∀ (pre : List Wr) (s : Int × BitVec 32 × List V3), s.2.2.length = 8 → 0 ≤ s.1 → (shv s pre).2.2.length = 8 ∧ 0 ≤ (shv s pre).1 := by
    intro pre
    induction pre with
    | nil => intro s a b; exact ⟨a, b⟩
    | cons x pre ih =>
      intro s a b
      exact ih (shStep s x) (mix_len _ _ _) (by unfold shStep nextVer; dsimp only; split <;> omega)
  exact key pre s h8 h0
/-- What stands while the writes of a card are merged. -/
structure SI (w : World) (A : Option Addr) (n c : Nat) (id : Int) (s : Int × BitVec 32 × List V3) (pre : List Wr) (W : World) : Prop where
  bc : Blk W w.heap.size (shc id (shv s pre))
  br : Blk W (w.heap.size + 1) (ccells 0 0 0 zeros)
  bl : Blk W (w.heap.size + 2) [.slice A n c]
  bi : Blk W (w.heap.size + 3) [.int .i64 id]
  be : Below w.heap.size w W
  z : w.heap.size + 4 ≤ W.heap.size
theorem SI.own (w : World) (A : Option Addr) (n c : Nat) (id : Int) (s0 : Int × BitVec 32 × List V3) (B : Nat) (hB : w.heap.size ≤ B) : OwnFrom B (fun (pre : List Wr) W => SI w A n c id s0 pre W) := by
  intro s X Y row h hg hr
  have hr2 : ∀ r, row = some r → ∃ o : Obj, X.heap[r]? = some o ∧ o.isCells = false := fun r e => (hr r e).2
  exact ⟨h.bc.owned hg hr2, h.br.owned hg hr2, h.bl.owned hg hr2, h.bi.owned hg hr2, h.be.grown hg h.be.size (fun k e => Nat.le_trans hB (hr k e).1), Nat.le_trans h.z hg.size⟩
theorem SI.later {w : World} {A : Option Addr} {n c : Nat} {id : Int} {s : Int × BitVec 32 × List V3} {pre : List Wr} {X Y : World} (h : SI w A n c id s pre X) (hb : Below X.heap.size X Y) : SI w A n c id s pre Y :=
  ⟨h.bc.later hb, h.br.later hb, h.bl.later hb, h.bi.later hb, h.be.trans (hb.mono h.be.size), Nat.le_trans h.z hb.size⟩
theorem SI.put {w : World} {A : Option Addr} {n c : Nat} {id : Int} {s : Int × BitVec 32 × List V3} {pre : List Wr} {X : World} (h : SI w A n c id s pre X) (x : Wr) (h8 : (shv s pre).2.2.length = 8) : SI w A n c id s (pre ++ [x]) (X.setCells w.heap.size 0 (shc id (shv s (pre ++ [x])))) := by
  have hl : (shc id (shv s (pre ++ [x]))).length = (shc id (shv s pre)).length := by
    unfold shc
    rw [ccells_len _ _ _ h8, ccells_len _ _ _ (by rw [shv_snoc]; exact mix_len _ _ _)]
  have hg := grown_sets w.heap.size (shc id (shv s (pre ++ [x]))) 0 X
  exact ⟨h.bc.whole hl, h.br.kept hg (by intro e; injection e with e; omega), h.bl.kept hg (by intro e; injection e with e; omega), h.bi.kept hg (by intro e; injection e with e; omega), h.be.grown hg h.be.size (fun k e => by injection e with e; omega), Nat.le_trans h.z hg.size⟩
theorem wr_patch {W : World} {b o : Nat} {y : Wr} (h : W.rangeAt b o (wrc y)) : W.rangeAt b (o + 2) (pcells (y.2.2.1.toNat : Int) (y.2.2.2.1.toNat : Int) y.2.2.2.2) := by
  have := range_mid (pre := [.int .i64 y.1, .int .i64 y.2.1]) (ds := pcells (y.2.2.1.toNat : Int) (y.2.2.2.1.toNat : Int) y.2.2.2.2) (post := []) (by rw [List.append_nil]; exact h) rfl
  exact this
set_option maxRecDepth 100000 in
set_option maxHeartbeats 8000000 in
theorem show_any (A : Option Addr) (n c : Nat) (l : List Wr) (id ver : Int) (lab : BitVec 32) (cf : List V3) (w : World) (hcf : cf.length = 8) (hv : 0 ≤ ver) (hn : l.length = n) (hw : Whole l) (hs : Sees w w.heap.size A (wrs l)) (hm : n ≤ 65536) :
    Calls Try.prog 15 #[.agg (ccells id ver (lab.toNat : Int) cf).toArray, .slice A n c] w fun e w' => e = .returned (.agg (shc id (ver, (shv (ver, lab, cf) (mine id l)).2)).toArray) ∧ Below w.heap.size w w' := by
  have hu := Try.underlying55
  have huc := Try.underlying32
  have hup := Try.underlying34
  have HS := Lib.hid (fun wx (h : Below w.heap.size w wx) => hs.below h)
  have HN := Lib.hid hn
  have HW := Lib.hid hw
  have HOK := Lib.hid (shv_ok (s := (ver, lab, cf)) hcf hv)
  have HCL := Lib.hid (fun pre => (show (shc id (shv (ver, lab, cf) pre)).length = 27 from ccells_len _ _ _ (HOK.out pre).1))
  have B0 := (Blk.new w (ccells id ver (lab.toNat : Int) cf) 32).alloc (.cells (ccells 0 0 0 zeros).toArray 32)
  have B1 := Blk.new (w.alloc (.cells (ccells id ver (lab.toNat : Int) cf).toArray 32)) (ccells 0 0 0 zeros) 32
  have hb9 := ((Below.refl w.heap.size w).alloc (Nat.le_refl _) (.cells (ccells id ver (lab.toNat : Int) cf).toArray 32)).alloc (by simp) (.cells (ccells 0 0 0 zeros).toArray 32)
  have hz1 : (w.alloc (.cells (ccells id ver (lab.toNat : Int) cf).toArray 32)).heap.size = w.heap.size + 1 := by simp
  rw [hz1] at B1
  obtain ⟨ca, hca⟩ : ∃ ca, ca = (ccells id ver (lab.toNat : Int) cf).toArray := ⟨_, rfl⟩
  rw [← hca] at B0 B1 hb9 hz1 ⊢
  rw [zc27] at B0 hb9
  have c0 := B0.cell (j := 0) rfl
  have c1 := B0.cell (j := 1) rfl
  have hz2 : ((w.alloc (.cells ca 32)).alloc (.cells #[Value.int .i64 0, .int .i64 0, .int .u32 0, .int .i64 0, .int .i64 0, .string { data := #[] }, .int .i64 0, .int .i64 0, .string { data := #[] }, .int .i64 0, .int .i64 0, .string { data := #[] }, .int .i64 0, .int .i64 0, .string { data := #[] }, .int .i64 0, .int .i64 0, .string { data := #[] }, .int .i64 0, .int .i64 0, .string { data := #[] }, .int .i64 0, .int .i64 0, .string { data := #[] }, .int .i64 0, .int .i64 0, .string { data := #[] }] 32)).heap.size = w.heap.size + 2 := by simp
  have B1' : Blk ((w.alloc (.cells ca 32)).alloc (.cells #[Value.int .i64 0, .int .i64 0, .int .u32 0, .int .i64 0, .int .i64 0, .string { data := #[] }, .int .i64 0, .int .i64 0, .string { data := #[] }, .int .i64 0, .int .i64 0, .string { data := #[] }, .int .i64 0, .int .i64 0, .string { data := #[] }, .int .i64 0, .int .i64 0, .string { data := #[] }, .int .i64 0, .int .i64 0, .string { data := #[] }, .int .i64 0, .int .i64 0, .string { data := #[] }, .int .i64 0, .int .i64 0, .string { data := #[] }] 32)) (w.heap.size + 1) (ccells 0 0 0 zeros) := B1
  clear hn hw hs hcf hca B1
  refine (callsIn_wide (n := 5)).1 ?_
  refine callsIn_of_wp_marks Try.func15 rfl trivial ?_ rfl
  simp only [Try.ntmps15, List.size_toArray, List.length_cons, List.length_nil, Nat.reduceAdd, Nat.reduceSub, Array.replicate_succ, Array.replicate_zero, List.push_toArray, List.append_toArray, List.nil_append, List.cons_append]
  gi_wp2_with fail
  refine ⟨trivial, (callsIn_wide.2 (of_any A n c id _)).mono ?_⟩
  rintro e w2 ⟨rfl, rfl⟩
  clear c0 c1
  obtain ⟨w9, hw9⟩ : ∃ w9, w9 = ((w.alloc (.cells ca 32)).alloc (.cells #[Value.int .i64 0, .int .i64 0, .int .u32 0, .int .i64 0, .int .i64 0, .string { data := #[] }, .int .i64 0, .int .i64 0, .string { data := #[] }, .int .i64 0, .int .i64 0, .string { data := #[] }, .int .i64 0, .int .i64 0, .string { data := #[] }, .int .i64 0, .int .i64 0, .string { data := #[] }, .int .i64 0, .int .i64 0, .string { data := #[] }, .int .i64 0, .int .i64 0, .string { data := #[] }, .int .i64 0, .int .i64 0, .string { data := #[] }] 32)) := ⟨_, rfl⟩
  rw [← hw9] at B0 B1' hb9 hz2 ⊢
  clear hw9
  gi_wp2_with fail
  have WC := (B0.alloc (.cells #[.slice A n c] 25)).alloc (.cells #[.int .i64 id] 3)
  have WR := (B1'.alloc (.cells #[.slice A n c] 25)).alloc (.cells #[.int .i64 id] 3)
  have WL := (Blk.new w9 [.slice A n c] 25).alloc (.cells #[.int .i64 id] 3)
  have WI' := Blk.new (w9.alloc (.cells #[.slice A n c] 25)) [.int .i64 id] 3
  have hzl : (w9.alloc (.cells #[.slice A n c] 25)).heap.size = w.heap.size + 3 := by simp [hz2]
  have hzi : ((w9.alloc (.cells #[.slice A n c] 25)).alloc (.cells #[.int .i64 id] 3)).heap.size = w.heap.size + 4 := by simp [hz2]
  have hbw := (hb9.alloc hb9.size (.cells #[.slice A n c] 25)).alloc (Nat.le_trans hb9.size (by simp)) (.cells #[.int .i64 id] 3)
  rw [hz2] at WL
  rw [hzl] at WI'
  obtain ⟨W0, hW0⟩ : ∃ W0, W0 = (w9.alloc (.cells #[.slice A n c] 25)).alloc (.cells #[.int .i64 id] 3) := ⟨_, rfl⟩
  rw [← hW0] at WC WR WL WI' hzi hbw ⊢
  have HI0 : SI w A n c id (ver, lab, cf) [] W0 := ⟨WC, WR, WL, WI', hbw, by omega⟩
  have HZI := Lib.hid hzi
  clear hW0 hzl hz1 WC WR WL WI' B0 B1' hb9 hbw
  refine wpIn_rangeFunc_boxd (F := Fence.wide) rfl (by omega) (gf := 30) (lb := #[.pointer (some ⟨w.heap.size + 2, 0, none⟩), .pointer (some ⟨w.heap.size + 3, 0, none⟩)]) rfl trivial (enters_of Try.func30 (by kernel_rfl) rfl)
    (of_told (5 - 1) (by omega) (w.heap.size + 2) (w.heap.size + 3) w.heap.size n c A l id W0 HN.out HW.out hm HI0.be.size (HI0.bl.cell (j := 0) rfl) (HI0.bi.cell (j := 0) rfl) (HS.out W0 HI0.be)) (fun h k => h.trans k)
    (fun W l o o' hl h h1 h2 => ⟨belowK_b (w := W0) (n₀ := w.heap.size) (by omega) W l o o' hl h h1 h2, (belowK_b (w := W0) (n₀ := w.heap.size + 4) (by omega) W l o o' hl h h1 h2).cell (p := ⟨w.heap.size + 2, 0, none⟩) (by show w.heap.size + 2 < w.heap.size + 4; omega), (belowK_b (w := W0) (n₀ := w.heap.size + 4) (by omega) W l o o' hl h h1 h2).cell (p := ⟨w.heap.size + 3, 0, none⟩) (by show w.heap.size + 3 < w.heap.size + 4; omega)⟩) (Below.refl _ _)
    (fun pre W => SI w A n c id (ver, lab, cf) pre W) (fun _ _ _ => False) (SI.own w A n c id _ _ HI0.be.size) (fun _ _ _ _ _ hs _ _ => hs) HI0 6 (fun y => wrc y) ?assign ?body ?done ?stop
  case assign =>
    rintro lp pre y W K hpr hI hK
    simp only [List.setIfInBounds_toArray, List.set_cons_zero, List.set_cons_succ] at hK ⊢
    have hyw : y.2.2.2.2.length = 8 := HW.out y (by
      have : y ∈ mine id l := hpr.subset (by simp)
      exact (List.mem_filter.1 this).1)
    obtain ⟨W3, hW3, TH, F3, B3⟩ := wr_put W 55 y hyw
    subst hW3
    have ON := all_oneCell_toArray (wrc_one y)
    have HSZ := wrc_len hyw
    have I3 := Lib.hid hI
    have hz := hI.z
    have R3 := Lib.hid F3
    have HB3 := Lib.hid B3
    obtain ⟨wc, hwc⟩ : ∃ wc, wc = wrc y := ⟨_, rfl⟩
    rw [← hwc] at ON HSZ R3 HB3 hK ⊢
    have hs4 : wc.toArray.size = 28 := (List.size_toArray).trans HSZ
    have TH2 : (W.alloc (.cells (wrc zwr).toArray 55)).there W.heap.size 0 wc.toArray.size := by rw [hs4]; exact TH
    have IN2 : (Try.prog.info? 55).map (·.size) = some wc.toArray.size := by rw [hs4]; exact info_qw
    rw [zwr_cells] at TH2 R3 HB3
    clear hwc TH F3 B3 hs4 hI hpr hyw
    gi_wp2_with (first
      | (refine wpListIn_store rfl 55 (.tmp 6) (.tmp 13) rfl W.heap.size 0 wc.toArray rfl rfl TH2 IN2 ON ?_
         simp only [Act.put]
         generalize hw4 : World.setCells _ W.heap.size 0 wc.toArray.toList = w4
         have F4 : Blk w4 W.heap.size wc := hw4 ▸ R3.out
         have B4 : Below W.heap.size W w4 := hw4 ▸ HB3.out
         clear hw4 TH2 IN2 R3 HB3)
      | fail)
    have hI := I3.out
    exact hK w4 W.heap.size (by omega) ((KeepsOthers.of_grownBy (below_grownN B4) (fun j o e => by cases e)).from _) ⟨B4.mono hI.be.size, B4.cell (p := ⟨w.heap.size + 2, 0, none⟩) hI.bl.lt, B4.cell (p := ⟨w.heap.size + 3, 0, none⟩) hI.bi.lt⟩ (hI.later B4) F4
  case body =>
    rintro lp pre y Bx W hlp ⟨r, hr⟩ hpr hI hBx hBk hlt
    simp only [List.setIfInBounds_toArray, List.set_cons_zero, List.set_cons_succ]
    have hyw : y.2.2.2.2.length = 8 := HW.out y (by
      have : y ∈ mine id l := hpr.subset (by simp)
      exact (List.mem_filter.1 this).1)
    obtain ⟨h8, h0⟩ := HOK.out pre
    have rc := hI.bc.range 0 (shc id (shv (ver, lab, cf) pre)) (by rw [List.drop_zero, List.take_length])
    have rp := wr_patch (hBk.range 0 (wrc y) (by rw [List.drop_zero, List.take_length]))
    rw [Nat.zero_add] at rp
    have HPL := Lib.hid (pcells_len (y.2.2.1.toNat : Int) (y.2.2.2.1.toNat : Int) hyw)
    have HC1 := Lib.hid (HCL.out pre)
    have HC2 := Lib.hid (HCL.out (pre ++ [y]))
    have HMG : Hid (∀ wx, Calls Try.prog 24 #[.agg (shc id (shv (ver, lab, cf) pre)).toArray, .agg (pcells (y.2.2.1.toNat : Int) (y.2.2.2.1.toNat : Int) y.2.2.2.2).toArray] wx fun e w' => e = .returned (.agg (shc id (shv (ver, lab, cf) (pre ++ [y]))).toArray) ∧ Below wx.heap.size wx w') := Lib.hid (fun wx => by
      have h := merge_any id (shv (ver, lab, cf) pre).1 ((shv (ver, lab, cf) pre).2.1.toNat : Int) (y.2.2.2.1.toNat : Int) y.2.2.1 (shv (ver, lab, cf) pre).2.2 y.2.2.2.2 wx h8 hyw (by omega)
      have e : (if has y.2.2.1 8 then (y.2.2.2.1.toNat : Int) else ((shv (ver, lab, cf) pre).2.1.toNat : Int)) = ((if has y.2.2.1 8 then y.2.2.2.1 else (shv (ver, lab, cf) pre).2.1).toNat : Int) := by
        cases has y.2.2.1 8 <;> rfl
      rw [e] at h
      rw [shv_snoc]
      exact h)
    have HPUT := Lib.hid (fun W' (h : SI w A n c id (ver, lab, cf) pre W') => h.put y h8)
    have HI := Lib.hid hI
    have hone : ∀ v ∈ shc id (shv (ver, lab, cf) (pre ++ [y])), v.oneCell' = true := ccells_one _ _ _ _
    obtain ⟨cs, hcs⟩ : ∃ cs, cs = shc id (shv (ver, lab, cf) pre) := ⟨_, rfl⟩
    rw [← hcs] at rc HC1 HMG
    obtain ⟨ds, hds⟩ : ∃ ds, ds = shc id (shv (ver, lab, cf) (pre ++ [y])) := ⟨_, rfl⟩
    rw [← hds] at HC2 HMG HPUT hone
    obtain ⟨pc, hpc⟩ : ∃ pc, pc = pcells (y.2.2.1.toNat : Int) (y.2.2.2.1.toNat : Int) y.2.2.2.2 := ⟨_, rfl⟩
    rw [← hpc] at rp HPL HMG
    have HTH := Lib.hid (fun W' (h : SI w A n c id (ver, lab, cf) pre W') => h.bc.there 0 27 (by rw [HCL.out pre]; omega))
    have h27 : ds.toArray.size = 27 := (List.size_toArray).trans HC2.out
    generalize (wrc y).toArray = ya
    clear hI hBk hpr hds hpc hcs hyw h8 h0
    gi_wp2_with (first
      | (refine wpListIn_load rfl 32 (.tmp 2) rfl w.heap.size 0 rfl cs _ rc huc rfl (by rw [HC1.out]; exact info_card) ?_)
      | (refine wpListIn_load rfl 34 (.tmp 15) rfl Bx 2 rfl pc _ rp hup rfl (by rw [HPL.out]; exact info_patch) ?_)
      | fail)
    refine ⟨trivial, (callsIn_wide.2 (HMG.out _)).mono ?_⟩
    rintro e w5 ⟨rfl, hb5⟩
    have I5 := HI.out.later hb5
    have TH := HTH.out _ I5
    have HF2 := Lib.hid (HPUT.out _ I5)
    have hg5 := grown_sets w.heap.size ds 0 w5
    have k1 := Lib.hid (((KeepsOthers.of_grownBy (below_grownN hb5) (fun j o e => by cases e)).trans (KeepsOthers.of_grownBy hg5 (fun j o e hj => by
      injection e with e
      subst e
      obtain ⟨t, ht⟩ := I5.bc
      rw [ht] at hj
      cases hj
      rfl))).from W0.heap.size)
    have k2 : Hid (Keep3 w.heap.size (w.heap.size + 2) (w.heap.size + 3) W (w5.setCells w.heap.size 0 ds)) := Lib.hid ⟨(Below.mono hb5 HI.out.be.size).grown hg5 (Nat.le_trans HI.out.be.size hb5.size) (fun k e => by injection e with e; omega), (World.cell?_of_block (a := ⟨w.heap.size + 2, 0, none⟩) (hg5.block _ I5.bl.lt (fun e => by injection e with e; simp at e))).trans (hb5.cell (p := ⟨w.heap.size + 2, 0, none⟩) HI.out.bl.lt), (World.cell?_of_block (a := ⟨w.heap.size + 3, 0, none⟩) (hg5.block _ I5.bi.lt (fun e => by injection e with e; simp at e))).trans (hb5.cell (p := ⟨w.heap.size + 3, 0, none⟩) HI.out.bi.lt)⟩
    clear rc rp hb5 I5 hg5
    gi_wp2_with (first
      | (refine wpListIn_store rfl 32 (.tmp 2) (.tmp 17) rfl w.heap.size 0 ds.toArray rfl rfl (by rw [h27]; exact TH) (by rw [h27]; exact info_card) (all_oneCell_toArray hone) ?_)
      | fail)
    exact ⟨k1.out, k2.out, HF2.out⟩
  case done =>
    rintro D ys W hD rfl hI hK
    obtain ⟨h8, _⟩ := HOK.out (mine id l)
    have HC1 := Lib.hid (HCL.out (mine id l))
    have F1 : Hid (Blk (W.setCell ⟨w.heap.size, 1, none⟩ (.int .i64 ver)) w.heap.size (shc id (ver, (shv (ver, lab, cf) (mine id l)).2))) := Lib.hid (by
      have h := hI.bc.set 1 (.int .i64 ver)
      exact h)
    have R1 := Lib.hid (hI.br.setOther (b := w.heap.size) 1 (.int .i64 ver) (by omega))
    have hbe := hI.be.setCell (p := ⟨w.heap.size, 1, none⟩) (Nat.le_refl _) (.int .i64 ver)
    have hK1 := (KeepsOthers.setCell W ⟨w.heap.size, 1, none⟩ (.int .i64 ver)).same D _ hK rfl
    have c1 := hI.bc.cell (j := 1) rfl
    have f1 := hI.bc.frozen 1
    have HDL : Hid ((shc id (ver, (shv (ver, lab, cf) (mine id l)).2)).length = 27) := Lib.hid (ccells_len _ _ _ h8)
    have hone : ∀ v ∈ shc id (ver, (shv (ver, lab, cf) (mine id l)).2), v.oneCell' = true := ccells_one _ _ _ _
    obtain ⟨ds, hds⟩ : ∃ ds, ds = shc id (ver, (shv (ver, lab, cf) (mine id l)).2) := ⟨_, rfl⟩
    have HDS := Lib.hid hds
    rw [← hds] at F1 HDL hone
    have rd := F1.out.range 0 ds (by rw [List.drop_zero, List.take_length])
    have TH := R1.out.there 0 27 (by rw [ccells_len 0 0 0 zeros_len]; omega)
    have h27 : ds.toArray.size = 27 := (List.size_toArray).trans HDL.out
    have FIN := Lib.hid (R1.out.whole (ds := ds) (by rw [HDL.out, ccells_len 0 0 0 zeros_len]))
    have hg2 := grown_sets (w.heap.size + 1) ds 0 (W.setCell ⟨w.heap.size, 1, none⟩ (.int .i64 ver))
    have hK2 := (hg2.block D (Array.getElem?_eq_some_iff.1 hK1).1 (fun e => by
      injection e with e
      subst e
      obtain ⟨t, ht⟩ := R1.out
      rw [ht] at hK1
      cases hK1)).trans hK1
    have HBE := Lib.hid (hbe.grown hg2 hbe.size (fun k e => by injection e with e; omega))
    have HD := Lib.hid (show w.heap.size ≤ D by have := hI.be.size; have := HZI.out; omega)
    clear hI hbe hK hK1 hds h8 hg2
    gi_wp2_with (first
      | (refine wpListIn_load rfl 32 (.tmp 2) rfl w.heap.size 0 rfl ds _ rd huc rfl (by rw [HDL.out]; exact info_card) ?_)
      | (refine wpListIn_store rfl 32 (.tmp 4) (.tmp 20) rfl (w.heap.size + 1) 0 ds.toArray rfl rfl (by rw [h27]; exact TH) (by rw [h27]; exact info_card) (all_oneCell_toArray hone) ?_)
      | fail)
    refine ⟨by simp, .inl ⟨_, _, rfl, run_takeDeferred hK2, ?_⟩⟩
    exact ⟨.agg ds.toArray, results_blk (q := 4) rfl _ _ (w.heap.size + 1) ds _ rfl (FIN.out.owned (grownBy_putObj' _ D _) (fun r e => by cases e; exact ⟨_, hK2, rfl⟩)) huc rfl (by rw [HDL.out]; exact info_card), by rw [HDS.out], HBE.out.trans (belowK_b (w := w) (Nat.le_refl _) _ D _ _ HD.out hK2 rfl rfl)⟩
  case stop =>
    rintro D cc pre W _ _ h _
    exact h.elim
end Go.Proofs.Ytjlpccdlpgkgoaa
