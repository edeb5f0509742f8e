/- The program's Waits and Show. -/
import Derived.Test.YtjlpccdlpgkgoaaQeI
namespace Go.Proofs.Ytjlpccdlpgkgoaa
set_option linter.unusedVariables false
set_option linter.unusedSimpArgs false
open Go Go.RowKit Go.Shelf BitM
attribute [local go_sem] Oper.semAt_some

/-- What stands while the writes of a card are counted. -/
structure WI (w : World) (A : Option Addr) (n c : Nat) (id : Int) (pre : List Wr) (W : World) : Prop where
  b5 : Blk W w.heap.size [.int .i64 (pre.length : Int)]
  bl : Blk W (w.heap.size + 1) [.slice A n c]
  bi : Blk W (w.heap.size + 2) [.int .i64 id]
  be : Below w.heap.size w W
  z : w.heap.size + 3 ≤ W.heap.size
theorem WI.own (w : World) (A : Option Addr) (n c : Nat) (id : Int) (B : Nat) (hB : w.heap.size ≤ B) : OwnFrom B (fun (pre : List Wr) W => WI w A n c id pre W) := by
  intro s X Y row h hg hr
  have hr2 : ∀ r, row = some r → ∃ o : Obj, X.heap[r]? = some o ∧ o.isCells = false := fun r e => (hr r e).2
  exact ⟨h.b5.owned hg hr2, h.bl.owned hg hr2, h.bi.owned hg hr2, h.be.grown hg h.be.size (fun k e => Nat.le_trans hB (hr k e).1), Nat.le_trans h.z hg.size⟩
set_option maxRecDepth 100000 in
set_option maxHeartbeats 8000000 in
theorem waits_any (A : Option Addr) (n c : Nat) (l : List Wr) (id : Int) (w : World) (hn : l.length = n) (hw : Whole l) (hs : Sees w w.heap.size A (wrs l)) (hm : n ≤ 65536) :
    Calls Try.prog 13 #[.slice A n c, .int .i64 id] w fun e w' => e = .returned (.int .i64 ((mine id l).length : Int)) ∧ Below w.heap.size w w' := by
  have HS := Lib.hid (fun wx (h : Below w.heap.size w wx) => hs.below h)
  have HN := Lib.hid hn
  have HW := Lib.hid hw
  have b9 := Blk.new w [.int .i64 0] 3
  have hb9 := (Below.refl w.heap.size w).alloc (Nat.le_refl _) (.cells #[.int .i64 0] 3)
  have hz9 : (w.alloc (.cells #[.int .i64 0] 3)).heap.size = w.heap.size + 1 := by simp
  clear hn hw hs
  refine (callsIn_wide (n := 5)).1 ?_
  refine callsIn_of_wp_marks Try.func13 rfl trivial ?_ rfl
  simp only [Try.ntmps13, List.size_toArray, List.length_cons, List.length_nil, Nat.reduceAdd, Nat.reduceSub, Array.replicate_succ, Array.replicate_zero, List.push_toArray, List.append_toArray, List.nil_append, List.cons_append]
  gi_wp2_with fail
  refine ⟨trivial, (callsIn_wide.2 (of_any A n c id _)).mono ?_⟩
  rintro e w2 ⟨rfl, rfl⟩
  gi_wp2_with fail
  have W9 := (b9.alloc (.cells #[.slice A n c] 25)).alloc (.cells #[.int .i64 id] 3)
  have WL := (Blk.new (w.alloc (.cells #[.int .i64 0] 3)) [.slice A n c] 25).alloc (.cells #[.int .i64 id] 3)
  have WI' := Blk.new ((w.alloc (.cells #[.int .i64 0] 3)).alloc (.cells #[.slice A n c] 25)) [.int .i64 id] 3
  have hzl : ((w.alloc (.cells #[.int .i64 0] 3)).alloc (.cells #[.slice A n c] 25)).heap.size = w.heap.size + 2 := by simp
  have hzi : (((w.alloc (.cells #[.int .i64 0] 3)).alloc (.cells #[.slice A n c] 25)).alloc (.cells #[.int .i64 id] 3)).heap.size = w.heap.size + 3 := by simp
  have hbw := (hb9.alloc hb9.size (.cells #[.slice A n c] 25)).alloc (Nat.le_trans hb9.size (by simp)) (.cells #[.int .i64 id] 3)
  rw [hz9] at WL
  rw [hzl] at WI'
  obtain ⟨W0, hW0⟩ : ∃ W0, W0 = ((w.alloc (.cells #[.int .i64 0] 3)).alloc (.cells #[.slice A n c] 25)).alloc (.cells #[.int .i64 id] 3) := ⟨_, rfl⟩
  rw [← hW0] at W9 WL WI' hzi hbw ⊢
  have HI0 : WI w A n c id [] W0 := ⟨W9, WL, WI', hbw, by omega⟩
  have HZI := Lib.hid hzi
  clear hW0 hzl hz9 W9 WL WI' b9 hb9 hbw
  refine wpIn_rangeFunc_box (F := Fence.wide) rfl (by omega) (gf := 30) (lb := #[.pointer (some ⟨w.heap.size + 1, 0, none⟩), .pointer (some ⟨w.heap.size + 2, 0, none⟩)]) rfl trivial (enters_of Try.func30 (by kernel_rfl) rfl)
    (of_told (5 - 1) (by omega) (w.heap.size + 1) (w.heap.size + 2) w.heap.size n c A l id W0 HN.out HW.out hm HI0.be.size (HI0.bl.cell (j := 0) rfl) (HI0.bi.cell (j := 0) rfl) (HS.out W0 HI0.be)) (fun h k => h.trans k)
    (fun W l o o' hl h h1 h2 => ⟨belowK_b (w := W0) (n₀ := w.heap.size) (by omega) W l o o' hl h h1 h2, (belowK_b (w := W0) (n₀ := w.heap.size + 3) (by omega) W l o o' hl h h1 h2).cell (p := ⟨w.heap.size + 1, 0, none⟩) (by show w.heap.size + 1 < w.heap.size + 3; omega), (belowK_b (w := W0) (n₀ := w.heap.size + 3) (by omega) W l o o' hl h h1 h2).cell (p := ⟨w.heap.size + 2, 0, none⟩) (by show w.heap.size + 2 < w.heap.size + 3; omega)⟩) (Below.refl _ _) (fun _ => rfl)
    (fun pre W => WI w A n c id pre W) (fun _ _ _ => False) (WI.own w A n c id _ HI0.be.size) (fun _ _ _ _ _ hs _ _ => hs) HI0
    (fun x a' W => a' = { tmps := #[.slice A n c, .int .i64 id, undef, undef, .int .i64 0, .pointer (some ⟨w.heap.size, 0, none⟩), .slice A n c, .int .i64 id, .func (.func 30) #[] #[.pointer (some ⟨w.heap.size + 1, 0, none⟩), .pointer (some ⟨w.heap.size + 2, 0, none⟩)], .agg (wrc x).toArray, undef, undef, undef], defers := [] })
    (fun x a' s X Y row hs hg hr => hs) ?assign ?body ?done ?stop
  case assign =>
    rintro lp pre y W K hpr hI hK
    gi_wp2_with fail
    exact hK _ W (KeepsOthers.refl W |>.from _) ⟨Below.refl _ _, rfl, rfl⟩ hI (by simp)
  case body =>
    rintro lp pre y a' W hlp ⟨r, hr⟩ hpr hI rfl hlt
    obtain ⟨m, hm2⟩ : ∃ m, m = pre.length := ⟨_, rfl⟩
    have hpl : (pre ++ [y]).length = m + 1 := by rw [List.length_append, hm2]; rfl
    have hb5 := hI.b5
    rw [← hm2] at hb5 hlt
    have HF2 : Hid (WI w A n c id (pre ++ [y]) (W.setCell ⟨w.heap.size, 0, none⟩ (.int .i64 ((m : Int) + 1)))) := Lib.hid ⟨by rw [hpl]; exact hb5.set 0 _, hI.bl.setOther 0 _ (by omega), hI.bi.setOther 0 _ (by omega), hI.be.setCell (p := ⟨w.heap.size, 0, none⟩) (Nat.le_refl _) _, by rw [size_setCell']; exact hI.z⟩
    have k1 := Lib.hid ((KeepsOthers.setCell W ⟨w.heap.size, 0, none⟩ (.int .i64 ((m : Int) + 1))).from W0.heap.size)
    have k2 : Hid (Keep3 w.heap.size (w.heap.size + 1) (w.heap.size + 2) W (W.setCell ⟨w.heap.size, 0, none⟩ (.int .i64 ((m : Int) + 1)))) := Lib.hid ⟨(Below.refl _ W).setCell (p := ⟨w.heap.size, 0, none⟩) (Nat.le_refl _) _, World.cell?_setCell_other _ ⟨w.heap.size, 0, none⟩ ⟨w.heap.size + 1, 0, none⟩ _ (by intro e; injection e with e; omega), World.cell?_setCell_other _ ⟨w.heap.size, 0, none⟩ ⟨w.heap.size + 2, 0, none⟩ _ (by intro e; injection e with e; omega)⟩
    have c9 := hb5.cell (j := 0) rfl
    have f9 := hb5.frozen 0
    have h0 : (0 : Int) ≤ (m : Int) := by omega
    have h63 : (m : Int) + 1 ≤ 9223372036854775807 := by omega
    clear hI hb5 hpr hm2 hpl
    generalize (wrc y).toArray = ya
    gi_wp2_with fail
    exact ⟨k1.out, k2.out, HF2.out⟩
  case done =>
    rintro D ys W hD rfl hI hK
    have c9 := hI.b5.cell (j := 0) rfl
    have HI := Lib.hid hI
    clear hI
    gi_wp2_with fail
    refine ⟨by simp, .inl ⟨_, _, rfl, run_takeDeferred hK, ?_⟩⟩
    exact ⟨_, results_tmp rfl _ _ _, rfl, HI.out.be.trans (belowK_b (w := w) (Nat.le_refl _) _ D _ _ (by have := HI.out.be.size; have := HZI.out; omega) hK rfl rfl)⟩
  case stop =>
    rintro D cc pre W _ _ h _
    exact h.elim
end Go.Proofs.Ytjlpccdlpgkgoaa
