/- Values, cards and patches as they are read of no reader. -/
import Derived.Test.YticdpfjajkfheaaP11
import Derived.Test.YticdpfjajkfheaaP12
import Derived.Test.YticdpfjajkfheaaP10
import Derived.Test.YticdpfjajkfheaaP9
import Derived.Test.YticdpfjajkfheaaP3
namespace Go.Proofs.Yticdpfjajkfheaa
set_option linter.unusedVariables false
open Go Go.RowKit OctM BitM

def relB (B : Nat) (cs : List Value) : Rel where
  rel x w := ∃ g, x = .pointer (some ⟨g, 0, none⟩) ∧ B ≤ g ∧ Blk w g cs
  mono := fun x w w' h ⟨g, e, hg, hr⟩ => ⟨g, e, hg, hr.later h⟩
  real := fun w ⟨g, e, _⟩ => by cases e
theorem newC_gives {a : Act} {op : Oper} (ho : op.op = .alloc 27) (B : Nat) (w : World) (hB : B ≤ w.heap.size) : gives Try.prog op a (relB B (ccells 0 0 0 zeros)).rel w := by
  unfold gives execOp
  simp only [ho, Sem.run_bind, run_newC, Result.andThen_ok, Sem.run_pure]
  exact ⟨(Below.refl _ _).alloc (Nat.le_refl _) _, _, rfl, hB, Blk.new w _ _⟩
theorem fields_zero (w : World) : Calls Try.prog 50 #[.int .u32 0] w fun e w' => ∃ A c, e = .returned (.slice A 0 c) ∧ Below w.heap.size w w' := by
  have h := fields_any 0#32 w
  have hf : flds 0#32 = [] := by decide +kernel
  rw [hf] at h
  exact h.mono fun e w' ⟨A, c, he, _, hb⟩ => ⟨A, c, he, hb⟩

set_option maxRecDepth 100000 in
set_option maxHeartbeats 1600000 in
theorem nil_value (w : World) : Calls Try.prog 16 #[.pointer none] w fun x w' => x = .returned (.agg (vcells zv).toArray) ∧ Below w.heap.size w w' := by
  have hu := Try.underlying24
  have B2 := Blk.new w (vcells zv) 24
  have hb := (Below.refl w.heap.size w).alloc (Nat.le_refl _) (.cells (vcells zv).toArray 24)
  go_enter Try.func16, Try.ntmps16
  go_wp2_with fail
  refine (nil_num _ _).mono ?_
  rintro x w1 ⟨rfl, h1⟩
  generalize hw0 : w.alloc (.cells #[Value.int .i64 0, .int .i64 0, .string { data := #[] }] 24) = w0 at h1
  have B2' : Blk w0 w.heap.size (vcells zv) := hw0 ▸ B2
  have hb0 : Below w.heap.size w w0 := hw0 ▸ hb
  clear B2 hb hw0
  subst h1
  have B3 := Blk.new w0 (vcells zv) 24
  have T3 := B3.there 0 3 (Nat.le_refl _)
  have S3 := B3.wholeT (ds := vcells zv) rfl
  have LE3 : Le w0 (World.setCells (w0.alloc (.cells (vcells zv).toArray 24)) w0.heap.size 0 (vcells zv)) := below_sets (Nat.le_refl _) _ 0 ((Below.refl w0.heap.size w0).alloc (Nat.le_refl _) _)
  have O3 : (vcells zv).toArray.all (·.oneCell') = true := vcells_all _
  have hsz := hb0.size
  have hb2 := B2'.lt
  obtain ⟨g3, hg3⟩ : ∃ z, z = w0.heap.size := ⟨_, rfl⟩
  rw [← hg3] at T3 S3 LE3 hsz hb2
  have HG3 := Lib.hid hg3
  clear hg3 B3
  go_wp2_with (first
    | (rw [← HG3.out]
       refine wpList_store_mid rfl 24 (.tmp 3) (.tmp 6) rfl g3 0 (vcells zv).toArray rfl rfl T3 info_val O3 ?_
       simp only [Act.put]
       generalize hw3 : World.setCells _ g3 0 (vcells zv).toArray.toList = w3
       have S4 : Blk w3 g3 (vcells zv) := hw3 ▸ S3
       have LE3' : Le w0 w3 := hw3 ▸ LE3
       have q1 : w3.cell? ⟨g3, 0, none⟩ = some (.int .i64 0) := S4.cell rfl
       clear hw3 T3 S3 LE3)
    | fail)
  refine (nil_err _).mono ?_
  rintro x w4 ⟨rfl, rfl⟩
  replace B2' := B2'.later LE3'
  replace hb0 := hb0.trans (LE3'.mono hb0.size)
  have T8 := B2'.there 0 3 (Nat.le_refl _)
  have FIN := B2'.wholeT (ds := vcells zv) rfl
  have H9 := below_sets (Nat.le_refl w.heap.size) (vcells zv) 0 hb0
  clear q1 S4
  go_wp2_with (first
    | (refine wpList_store_mid rfl 24 (.tmp 2) (.tmp 22) rfl w.heap.size 0 (vcells zv).toArray rfl rfl T8 info_val O3 ?_)
    | fail)
  exact bodyPost_ret (v := .agg (vcells zv).toArray) (tok_results (q := 2) rfl _ _ w.heap.size _ _ rfl FIN hu rfl info_val) rfl ⟨rfl, H9⟩
set_option maxRecDepth 100000 in
theorem nil_above (w : World) (m : Int) : Calls Try.prog 47 #[.pointer none, .int .i64 m] w fun x w' => x = .returned (.int .i64 0) ∧ w = w' := by
  go_enter Try.func47, Try.ntmps47
  go_wp2_with fail
  refine (nil_num _ _).mono ?_
  rintro x w1 ⟨rfl, rfl⟩
  go_wp2_with fail
  refine (nil_fail _ _).mono ?_
  rintro x w1 ⟨rfl, rfl⟩
  go_wp2_with fail
  go_ret
  exact ⟨rfl, rfl⟩
set_option maxRecDepth 100000 in
set_option maxHeartbeats 3200000 in
theorem nil_card (w : World) : Calls Try.prog 18 #[.pointer none] w fun x w' => x = .returned (.agg (ccells 0 0 0 zeros).toArray) ∧ Below w.heap.size w w' := by
  have B1 : Blk (w.alloc (.cells #[.pointer none] 41)) w.heap.size [.pointer none] := Blk.new w [.pointer none] 41
  have hs1 : (w.alloc (.cells #[.pointer none] 41)).heap.size = w.heap.size + 1 := by simp
  obtain ⟨zs, hzs⟩ : ∃ zs, zs = (ccells 0 0 0 zeros) := ⟨_, rfl⟩
  have HZ := Lib.hid zc27
  have HZL := Lib.hid (show zs.length = 27 by rw [hzs]; exact ccells_len 0 0 0 zeros_len)
  have hone : zs.toArray.all (·.oneCell') = true := all_oneCell_toArray (by rw [hzs]; exact ccells_one _ _ _ _)
  rw [← hzs] at HZ ⊢
  have HZS := Lib.hid hzs
  have B2 := Blk.new (w.alloc (.cells #[.pointer none] 41)) zs 27
  rw [hs1] at B2
  replace B1 := B1.alloc (.cells zs.toArray 27)
  have hw0 : Below w.heap.size w ((w.alloc (.cells #[.pointer none] 41)).alloc (.cells zs.toArray 27)) := ((Below.refl w.heap.size w).alloc (Nat.le_refl _) _).alloc (by simp) _
  have hsz : w.heap.size + 2 ≤ ((w.alloc (.cells #[.pointer none] 41)).alloc (.cells zs.toArray 27)).heap.size := by simp
  generalize hW : (w.alloc (.cells #[.pointer none] 41)).alloc (.cells zs.toArray 27) = W at *
  have HW := Lib.hid hW
  have hu := Try.underlying27
  clear hW hs1 hzs
  have x0 : W.cell? ⟨w.heap.size, 0, none⟩ = some (.pointer none) := B1.cell rfl
  go_enter Try.func18, Try.ntmps18
  go_wp2_with fail
  rw [← HZ.out, HW.out]
  clear HW
  have hxx : ∀ k : LW W, k.val.cell? ⟨w.heap.size, 0, none⟩ = some (.pointer none) := fun k => (B1.later k.le).cell rfl
  refine wp_region_tail [(3, relB W.heap.size (ccells 0 0 0 zeros))] 35 9 (by kernel_rfl) (by kernel_rfl) (by kernel_rfl) (by rfl) ?_
  simp only [List.take_succ_cons, List.take_zero, List.drop_succ_cons, List.drop_zero]
  refine wpG_quiet (by rfl) (by rfl) (by rfl) (fun K hK => ?_)
  go_big_quiet_op
  refine hK _ ?_
  clear hK K
  refine wpG_call (by rfl) (by rfl) 47 #[.pointer none, .int .i64 1073741823] (.int .i64 0) (by intro _; simp [go_sem]) (by kernel_rfl) (fun w1 _ => (nil_above w1 1073741823).mono fun e' w' hh => ⟨hh.1, hh.2 ▸ Below.refl _ _⟩) ?_
  simp only [Act.put, List.setIfInBounds_toArray, List.set_cons_zero, List.set_cons_succ]
  refine wpG_quiet (by rfl) (by rfl) (by rfl) (fun K hK => ?_)
  go_big_quiet_op
  refine hK _ ?_
  clear hK K
  refine wpG_call (by rfl) (by rfl) 47 #[.pointer none, .int .i64 1099511627776] (.int .i64 0) (by intro _; simp [go_sem]) (by kernel_rfl) (fun w1 _ => (nil_above w1 1099511627776).mono fun e' w' hh => ⟨hh.1, hh.2 ▸ Below.refl _ _⟩) ?_
  simp only [Act.put, List.setIfInBounds_toArray, List.set_cons_zero, List.set_cons_succ]
  refine wpG_quiet (by rfl) (by rfl) (by rfl) (fun K hK => ?_)
  go_big_quiet_op
  refine hK _ ?_
  clear hK K
  refine wpG_call (by rfl) (by rfl) 43 #[.pointer none, .int .i64 65535] (.int .i64 0) (by intro _; simp [go_sem]) (by kernel_rfl) (fun w1 _ => (nil_num w1 65535).mono fun e' w' hh => ⟨hh.1, hh.2 ▸ Below.refl _ _⟩) ?_
  simp only [Act.put, List.setIfInBounds_toArray, List.set_cons_zero, List.set_cons_succ]
  refine wpG_quiet (by rfl) (by rfl) (by rfl) (fun K hK => ?_)
  go_big_quiet_op
  refine hK _ ?_
  clear hK K
  refine wpG_run (by rfl) (by rfl) (.agg (ccells 0 0 0 zeros).toArray) (fun w1 _ => by kernel_rfl) ?_
  simp only [Act.put, List.setIfInBounds_toArray, List.set_cons_zero, List.set_cons_succ]
  refine wpG_open (relB W.heap.size (ccells 0 0 0 zeros)) (by rfl) (by rfl) (fun w1 hl => newC_gives rfl W.heap.size w1 hl.1.size) ?_
  rintro _ ⟨_, _, _, ⟨g3, rfl, hg3, _⟩⟩
  simp only [Act.put, List.setIfInBounds_toArray, List.set_cons_zero, List.set_cons_succ]
  refine wpG_nil fun w1 hl hS => ?_
  obtain ⟨_, g', eg, _, C1⟩ := hS
  obtain rfl : g3 = g' := by injection eg with eg; injection eg with eg; injection eg
  rw [← HZS.out] at C1
  have T1 := C1.there 0 27 (by rw [HZL.out]; omega)
  have XS1 := Blk.setsOther (b := g3) (g := w.heap.size) (by omega) zs 0 (B1.later hl)
  have BS1 := Blk.setsOther (b := g3) (g := w.heap.size + 1) (by omega) zs 0 (B2.later hl)
  have H1 := below_sets (B := w.heap.size) (b := g3) (by omega) zs 0 (hw0.trans (hl.mono hw0.size))
  refine wpList_store_mid rfl 27 (.tmp 3) (.tmp 14) rfl g3 0 zs.toArray rfl (by rw [HZS.out]; rfl) (by simpa [HZL.out] using T1) (by simpa [HZL.out] using info_card) hone ?_
  simp only [Act.put]
  generalize hw3 : World.setCells w1 g3 0 zs.toArray.toList = w3
  have X3 : Blk w3 w.heap.size [.pointer none] := hw3 ▸ XS1
  have B3 : Blk w3 (w.heap.size + 1) zs := hw3 ▸ BS1
  have H3 : Below w.heap.size w w3 := hw3 ▸ H1
  clear hw3 XS1 BS1 H1 T1 C1 hl B1 B2 hw0 hxx x0 hsz eg hg3
  have x3 : w3.cell? ⟨w.heap.size, 0, none⟩ = some (.pointer none) := X3.cell rfl
  go_wp2_with fail
  refine (nil_num _ _).mono ?_
  rintro x w4 ⟨rfl, rfl⟩
  go_wp2_with fail
  refine (fields_zero _).mono ?_
  rintro x w5 ⟨A, c, rfl, hb5⟩
  have X5 := X3.later hb5
  have B5 := B3.later hb5
  have H5 := H3.trans (hb5.mono H3.size)
  clear X3 B3 H3 x3 hb5
  go_wp2_with fail
  go_loopw [21] (fun i wr => i = .int .i64 0 ∧ Blk wr w.heap.size [.pointer none] ∧ Blk wr (w.heap.size + 1) zs ∧ Below w.heap.size w wr) (fun i _ => 0)
  case atStart => exact ⟨rfl, X5, B5, H5⟩
  case round =>
    obtain ⟨rfl, X, B, H⟩ := hrel
    clear X5 B5 H5
    have xr : wr.cell? ⟨w.heap.size, 0, none⟩ = some (.pointer none) := X.cell rfl
    go_wp2_with fail
    refine (nil_err _).mono ?_
    rintro x w6 ⟨rfl, rfl⟩
    have T8 := B.there 0 27 (by rw [HZL.out]; omega)
    have FIN := B.wholeT (ds := zs) rfl
    have H9 := below_sets (B := w.heap.size) (b := w.heap.size + 1) (by omega) zs 0 H
    clear X B H xr
    go_wp2_with (first
      | (refine wpList_store_mid rfl 27 (.tmp 2) (.tmp 33) rfl (w.heap.size + 1) 0 zs.toArray rfl (by rw [HZS.out]; rfl) (by simpa [HZL.out] using T8) (by simpa [HZL.out] using info_card) hone ?_)
      | fail)
    exact bodyPost_ret (v := .agg zs.toArray) (tok_results (q := 2) rfl _ _ (w.heap.size + 1) zs _ rfl FIN hu rfl (by rw [HZL.out]; exact info_card)) rfl ⟨rfl, H9⟩
set_option maxRecDepth 100000 in
set_option maxHeartbeats 3200000 in
theorem nil_patch (w : World) : Calls Try.prog 20 #[.pointer none] w fun x w' => x = .returned (.agg (pcells 0 0 zeros).toArray) ∧ Below w.heap.size w w' := by
  have B1 : Blk (w.alloc (.cells #[.pointer none] 41)) w.heap.size [.pointer none] := Blk.new w [.pointer none] 41
  have hs1 : (w.alloc (.cells #[.pointer none] 41)).heap.size = w.heap.size + 1 := by simp
  obtain ⟨zs, hzs⟩ : ∃ zs, zs = (pcells 0 0 zeros) := ⟨_, rfl⟩
  have HZ := Lib.hid zp26
  have HZL := Lib.hid (show zs.length = 26 by rw [hzs]; exact pcells_len 0 0 zeros_len)
  have hone : zs.toArray.all (·.oneCell') = true := all_oneCell_toArray (by rw [hzs]; exact pcells_one _ _ _)
  rw [← hzs] at HZ ⊢
  have HZS := Lib.hid hzs
  have B2 := Blk.new (w.alloc (.cells #[.pointer none] 41)) zs 29
  rw [hs1] at B2
  replace B1 := B1.alloc (.cells zs.toArray 29)
  have hw0 : Below w.heap.size w ((w.alloc (.cells #[.pointer none] 41)).alloc (.cells zs.toArray 29)) := ((Below.refl w.heap.size w).alloc (Nat.le_refl _) _).alloc (by simp) _
  have hsz : w.heap.size + 2 ≤ ((w.alloc (.cells #[.pointer none] 41)).alloc (.cells zs.toArray 29)).heap.size := by simp
  generalize hW : (w.alloc (.cells #[.pointer none] 41)).alloc (.cells zs.toArray 29) = W at *
  have HW := Lib.hid hW
  have hu := Try.underlying29
  clear hW hs1 hzs
  have x0 : W.cell? ⟨w.heap.size, 0, none⟩ = some (.pointer none) := B1.cell rfl
  go_enter Try.func20, Try.ntmps20
  go_wp2_with fail
  rw [← HZ.out, HW.out]
  clear HW
  refine (nil_above _ _).mono ?_
  rintro x w1 ⟨rfl, rfl⟩
  have B3 := Blk.new W zs 29
  have T3 := B3.there 0 26 (by rw [HZL.out]; omega)
  have S3 := B3.wholeT (ds := zs) rfl
  have LE3 : Le W (World.setCells (W.alloc (.cells zs.toArray 29)) W.heap.size 0 zs) := below_sets (Nat.le_refl _) _ 0 ((Below.refl W.heap.size W).alloc (Nat.le_refl _) _)
  obtain ⟨g3, hg3⟩ : ∃ z, z = W.heap.size := ⟨_, rfl⟩
  rw [← hg3] at T3 S3 LE3 hsz
  have HG3 := Lib.hid hg3
  clear hg3 B3
  go_wp2_with (first
    | (rw [← HZ.out, ← HG3.out]
       refine wpList_store_mid rfl 29 (.tmp 3) (.tmp 10) rfl g3 0 zs.toArray rfl (by rw [HZS.out]; rfl) (by simpa [HZL.out] using T3) (by simpa [HZL.out] using info_patch) hone ?_
       simp only [Act.put]
       generalize hw3 : World.setCells _ g3 0 zs.toArray.toList = w3
       have S4 : Blk w3 g3 (pcells 0 0 zeros) := by rw [← HZS.out]; exact hw3 ▸ S3
       have LE3' : Le W w3 := hw3 ▸ LE3
       have q3 : w3.cell? ⟨g3, 0, none⟩ = some (.int .u32 0) := S4.cell rfl
       clear hw3 T3 S3 LE3)
    | fail)
  have HL0 := labels_any 0#32 w3
  rw [show has 0#32 8 = false from rfl] at HL0
  refine HL0.mono ?_
  rintro x w4 ⟨rfl, rfl⟩
  have X3 := B1.later LE3'
  have B3 := B2.later LE3'
  have H3 := hw0.trans (LE3'.mono hw0.size)
  have x3 : w3.cell? ⟨w.heap.size, 0, none⟩ = some (.pointer none) := X3.cell rfl
  clear HL0 x0 B1 B2 hw0 LE3' S4 hsz
  go_wp2_with fail
  refine (fields_zero _).mono ?_
  rintro x w5 ⟨A, c, rfl, hb5⟩
  have X5 := X3.later hb5
  have B5 := B3.later hb5
  have H5 := H3.trans (hb5.mono H3.size)
  clear X3 B3 H3 x3 hb5
  go_wp2_with fail
  go_loopw [23] (fun i wr => i = .int .i64 0 ∧ Blk wr w.heap.size [.pointer none] ∧ Blk wr (w.heap.size + 1) zs ∧ Below w.heap.size w wr) (fun i _ => 0)
  case atStart => exact ⟨rfl, X5, B5, H5⟩
  case round =>
    obtain ⟨rfl, X, B, H⟩ := hrel
    clear X5 B5 H5
    have xr : wr.cell? ⟨w.heap.size, 0, none⟩ = some (.pointer none) := X.cell rfl
    go_wp2_with fail
    refine (nil_err _).mono ?_
    rintro x w6 ⟨rfl, rfl⟩
    have T8 := B.there 0 26 (by rw [HZL.out]; omega)
    have FIN := B.wholeT (ds := zs) rfl
    have H9 := below_sets (B := w.heap.size) (b := w.heap.size + 1) (by omega) zs 0 H
    clear X B H xr
    go_wp2_with (first
      | (refine wpList_store_mid rfl 29 (.tmp 2) (.tmp 35) rfl (w.heap.size + 1) 0 zs.toArray rfl (by rw [HZS.out]; rfl) (by simpa [HZL.out] using T8) (by simpa [HZL.out] using info_patch) hone ?_)
      | fail)
    exact bodyPost_ret (v := .agg zs.toArray) (tok_results (q := 2) rfl _ _ (w.heap.size + 1) zs _ rfl FIN hu rfl (by rw [HZL.out]; exact info_patch)) rfl ⟨rfl, H9⟩
end Go.Proofs.Yticdpfjajkfheaa

/- Cards as bytes, by the document: what its PutCard returns. -/
namespace Go.Proofs.Yticdpfjajkfheaa
set_option linter.unusedVariables false
open Go Go.RowKit BitM OctM

theorem fbs_kl_succ (f : List V3) (k : Nat) (h : (f.getD k zv).1 ≠ 0) : fbs (kl f (k + 1)) f = fbs (kl f k) f ++ vbs (f.getD k zv) := by
  rw [kl_succ, if_pos h, fbs_snoc]; simp
theorem kl_skip (f : List V3) (k : Nat) (h : (f.getD k zv).1 = 0) : kl f (k + 1) = kl f k := by
  rw [kl_succ, if_neg (fun hn => hn h)]; simp
theorem ofl_kl_succ (f : List V3) (k : Nat) (h : (f.getD k zv).1 ≠ 0) : ofl (kl f (k + 1)) = put (ofl (kl f k)) (k : Int) := by
  rw [kl_succ, if_pos h, ofl_snoc]

set_option maxRecDepth 100000 in
set_option maxHeartbeats 3200000 in
theorem rputcard_any (id ver lab : Int) (f : List V3) (w : World) (hf : f.length = 8) (hlb : 0 ≤ lab) :
    Calls Try.prog 12 #[.agg (ccells id ver lab f).toArray] w fun e w' => e = .returned (.string (str (cbs id ver lab f))) ∧ Below w.heap.size w w' := by
  have HCK := Lib.hid (fun wx : World => rccheck_any id ver lab f wx hf)
  have HPLen : Hid ((ccells id ver lab f).length = 27) := Lib.hid (ccells_len id ver lab hf)
  have B0 := Blk.new w (ccells id ver lab f) 27
  obtain ⟨q0, q1, q2⟩ := B0.card
  obtain ⟨pc, hpc⟩ : ∃ pc, pc = ccells id ver lab f := ⟨_, rfl⟩
  rw [← hpc] at HCK B0 HPLen q0 q1 q2 ⊢
  have hb0 := (Below.refl w.heap.size w).alloc (Nat.le_refl _) (.cells pc.toArray 27)
  have RG := B0.wholeC
  have hu := Try.underlying27
  have HF := Lib.hid hf
  obtain ⟨ok, hok⟩ : ∃ b, b = ccheck id ver lab f := ⟨_, rfl⟩
  rw [← hok] at HCK
  cases ok
  · have HB : Hid (str (cbs id ver lab f) = ⟨#[]⟩) := Lib.hid (by unfold cbs; rw [if_pos hok.symm]; rfl)
    rw [HB.out]
    clear HB hok hpc q0 q1 q2 hf
    go_enter Try.func12, Try.ntmps12
    go_wp2_with (first
      | (refine wpList_load_mid rfl 27 (.tmp 1) rfl w.heap.size 0 rfl pc _ RG hu rfl (by rw [HPLen.out]; exact info_card) ?_)
      | fail)
    refine (HCK.out _).mono ?_
    rintro e w1 ⟨rfl, hb1⟩
    have hbw := hb0.trans (hb1.mono hb0.size)
    clear RG hb1 hb0
    go_wp2_with fail
    go_ret
    exact ⟨rfl, hbw⟩
  · have hlab : lab < 65536 := by
      have h := hok.symm
      unfold ccheck at h
      rw [Bool.and_eq_true] at h
      exact (of_decide_eq_true h.1).2.2.2.2
    have HB : Hid (cbs id ver lab f = (((enc (held id) ++ enc (held ver)) ++ enc (held lab)) ++ enc (held ((ofl (kl f 8)).toNat : Int))) ++ fbs (kl f 8) f) := Lib.hid (by unfold cbs; rw [if_neg (by rw [← hok]; simp)])
    obtain ⟨R, hR⟩ : ∃ R, R = str (cbs id ver lab f) := ⟨_, rfl⟩
    have HR := Lib.hid hR
    rw [← hR]
    have HPC := Lib.hid hpc
    clear hR hok hpc hf
    go_enter Try.func12, Try.ntmps12
    go_wp2_with (first
      | (refine wpList_load_mid rfl 27 (.tmp 1) rfl w.heap.size 0 rfl pc _ RG hu rfl (by rw [HPLen.out]; exact info_card) ?_)
      | fail)
    refine (HCK.out _).mono ?_
    rintro e w1 ⟨rfl, hb1⟩
    have hbw := hb0.trans (hb1.mono hb0.size)
    replace B0 := B0.later hb1
    clear RG hb1 hb0 q0 q1 q2 HCK
    go_wp2_with fail
    go_loopw [3, 4, 5] (fun mv sv i wr => ∃ k : Nat, k ≤ 8 ∧ i = .int .i64 k ∧ (∃ X : Nat, mv = .int .u32 (X : Int) ∧ Hid (X = (ofl (kl f k)).toNat)) ∧ (∃ t : ByteArray, sv = .string t ∧ Hid (t = str (fbs (kl f k) f)) ∧ t.size ≤ 40 * k) ∧ Blk wr w.heap.size pc ∧ Below w.heap.size w wr) (fun _ _ i _ => 8 - (intOf i).toNat)
    case atStart => exact ⟨0, by omega, rfl, ⟨0, rfl, Lib.hid rfl⟩, ⟨⟨#[]⟩, rfl, Lib.hid rfl, by decide⟩, B0, hbw⟩
    case round =>
      obtain ⟨k, hk, rfl, ⟨X, rfl, HX⟩, ⟨t, rfl, HT, ht⟩, D0, hbr⟩ := hrel
      by_cases hlt : k < 8
      · have hkf : k < f.length := by rw [HF.out]; exact hlt
        obtain ⟨l0, l1, l2⟩ := Blk.field (pre := [.int .i64 id, .int .i64 ver, .int .u32 lab]) (f := f) (g := w.heap.size) (w := wr) (by have := D0; rw [HPC.out] at this; exact this) 3 k rfl hkf
        have hg : f.getD k zv = f[k] := by simp [List.getD, hkf]
        obtain ⟨⟨v0, v1, v2⟩, hv⟩ : ∃ v, v = f[k] := ⟨_, rfl⟩
        rw [← hv] at l0 l1 l2 hg
        simp only at l0 l1 l2
        have hki : (k : Int) < 8 := by omega
        have hk0 : (0 : Int) ≤ (k : Int) := by omega
        by_cases hz : v0 = 0
        · have HK2 : Hid (kl f (k + 1) = kl f k) := Lib.hid (kl_skip f k (by rw [hg]; exact hz))
          have bz : (v0 != 0) = false := by simp [hz]
          clear hz hv hg hkf
          go_wp2_with fail
          go_roundw
          case rel => exact ⟨k + 1, by omega, by go_num, ⟨X, rfl, Lib.hid (by rw [HK2.out, HX.out])⟩, ⟨t, rfl, Lib.hid (by rw [HK2.out, HT.out]), by omega⟩, D0, hbr⟩
          case measure => simp [intOf]; omega
        · have HK2 : Hid (fbs (kl f (k + 1)) f = fbs (kl f k) f ++ vbs (v0, v1, v2)) := Lib.hid (by rw [← hg]; exact fbs_kl_succ f k (by rw [hg]; exact hz))
          have HX2 : Hid (ofl (kl f (k + 1)) = put (ofl (kl f k)) (k : Int)) := Lib.hid (ofl_kl_succ f k (by rw [hg]; exact hz))
          have bz : (v0 != 0) = true := by simp [hz]
          have HW := Lib.hid (fun wx : World => rwith_any (ofl (kl f k)) k (by omega) wx)
          rw [← HX.out] at HW
          obtain ⟨X2, hX2⟩ : ∃ X2, X2 = (put (ofl (kl f k)) (k : Int)).toNat := ⟨_, rfl⟩
          rw [← hX2] at HW
          have HPV := Lib.hid (fun wx : World => rputval_any v0 v1 v2 wx)
          obtain ⟨t2, ht2⟩ : ∃ t2, t2 = str (vbs (v0, v1, v2)) := ⟨_, rfl⟩
          rw [← ht2] at HPV
          have hz2 : t2.size ≤ 40 := by rw [ht2, str_size]; exact vbs_len _
          have HTT : Hid (t ++ t2 = str (fbs (kl f (k + 1)) f)) := Lib.hid (by rw [HK2.out, HT.out, ht2]; first | exact (str_append _ _).symm | exact str_append _ _)
          have HXX : Hid (X2 = (ofl (kl f (k + 1))).toNat) := Lib.hid (by rw [HX2.out, hX2])
          have hsz : (t ++ t2).size = t.size + t2.size := by simp
          have HSZ := Lib.hid hsz
          clear hz hv hg hkf ht2 hX2 hsz
          go_wp2_with fail
          refine (HW.out _).mono ?_
          rintro e w2 ⟨rfl, rfl⟩
          go_wp2_with fail
          refine (HPV.out _).mono ?_
          rintro e w2 ⟨rfl, hb2⟩
          have D2 := D0.later hb2
          have hbr2 := hbr.trans (hb2.mono hbr.size)
          clear D0 hb2 hbr l0 l1 l2
          go_wp2_with fail
          go_roundw
          case rel => exact ⟨k + 1, by omega, by go_num, ⟨X2, rfl, HXX⟩, ⟨t ++ t2, rfl, HTT, by rw [HSZ.out]; omega⟩, D2, hbr2⟩
          case measure => simp [intOf]; omega
      · obtain rfl : k = 8 := by omega
        have c0 : ∀ kk : LW wr, kk.val.cell? ⟨w.heap.size, 0, none⟩ = some (.int .i64 id) := fun kk => (Blk.card (by have := D0.later kk.le; rw [HPC.out] at this; exact this)).1
        have c1 : ∀ kk : LW wr, kk.val.cell? ⟨w.heap.size, 1, none⟩ = some (.int .i64 ver) := fun kk => (Blk.card (by have := D0.later kk.le; rw [HPC.out] at this; exact this)).2.1
        have c2 : ∀ kk : LW wr, kk.val.cell? ⟨w.heap.size, 2, none⟩ = some (.int .u32 lab) := fun kk => (Blk.card (by have := D0.later kk.le; rw [HPC.out] at this; exact this)).2.2
        have HN1 := Lib.hid (fun wx : World => ref_num id wx)
        have HN2 := Lib.hid (fun wx : World => ref_num ver wx)
        have HN3 := Lib.hid (fun wx : World => ref_num lab wx)
        have HN4 := Lib.hid (fun wx : World => ref_num (X : Int) wx)
        obtain ⟨s1, hs1⟩ : ∃ s, s = str (enc (held id)) := ⟨_, rfl⟩
        obtain ⟨s2, hs2⟩ : ∃ s, s = str (enc (held ver)) := ⟨_, rfl⟩
        obtain ⟨s3, hs3⟩ : ∃ s, s = str (enc (held lab)) := ⟨_, rfl⟩
        obtain ⟨s4, hs4⟩ : ∃ s, s = str (enc (held (X : Int))) := ⟨_, rfl⟩
        have z1 : s1.size ≤ 6 := by rw [hs1, str_size]; exact held_len _
        have z2 : s2.size ≤ 6 := by rw [hs2, str_size]; exact held_len _
        have z3 : s3.size ≤ 6 := by rw [hs3, str_size]; exact held_len _
        have z4 : s4.size ≤ 6 := by rw [hs4, str_size]; exact held_len _
        have HRR : Hid (R = s1 ++ s2 ++ s3 ++ s4 ++ t) := Lib.hid (by
          rw [HR.out, HB.out, hs1, hs2, hs3, hs4, HT.out, HX.out]
          simp only [str_append])
        rw [← hs1] at HN1
        rw [← hs2] at HN2
        rw [← hs3] at HN3
        rw [← hs4] at HN4
        have hX32 : (X : Int) < 4294967296 := by rw [HX.out]; have := (ofl (kl f 8)).isLt; omega
        clear hs1 hs2 hs3 hs4 HX HT D0
        go_wp2_with fail
        refine wp_region_steady [] 47 (by kernel_rfl) (by kernel_rfl) (by kernel_rfl) (by rfl) ?_
        iterate 2 (refine wpG_quiet (by rfl) (by rfl) (by rfl) (fun K hK => ?_); go_big_quiet_op; refine hK _ ?_; clear hK K)
        refine wpG_call (by rfl) (by rfl) 31 #[.int .i64 id] (.string s1) (by intro _; simp [go_sem]) (by kernel_rfl) (fun w1 hl => HN1.out w1) ?_
        simp only [Act.put, List.setIfInBounds_toArray, List.set_cons_zero, List.set_cons_succ]
        iterate 2 (refine wpG_quiet (by rfl) (by rfl) (by rfl) (fun K hK => ?_); go_big_quiet_op; refine hK _ ?_; clear hK K)
        refine wpG_call (by rfl) (by rfl) 31 #[.int .i64 ver] (.string s2) (by intro _; simp [go_sem]) (by kernel_rfl) (fun w1 hl => HN2.out w1) ?_
        simp only [Act.put, List.setIfInBounds_toArray, List.set_cons_zero, List.set_cons_succ]
        iterate 4 (refine wpG_quiet (by rfl) (by rfl) (by rfl) (fun K hK => ?_); go_big_quiet_op; refine hK _ ?_; clear hK K)
        refine wpG_call (by rfl) (by rfl) 31 #[.int .i64 lab] (.string s3) (by intro _; simp [go_sem]) (by kernel_rfl) (fun w1 hl => HN3.out w1) ?_
        simp only [Act.put, List.setIfInBounds_toArray, List.set_cons_zero, List.set_cons_succ]
        iterate 3 (refine wpG_quiet (by rfl) (by rfl) (by rfl) (fun K hK => ?_); go_big_quiet_op; refine hK _ ?_; clear hK K)
        refine wpG_call (by rfl) (by rfl) 31 #[.int .i64 (X : Int)] (.string s4) (by intro _; simp [go_sem]) (by kernel_rfl) (fun w1 hl => HN4.out w1) ?_
        simp only [Act.put, List.setIfInBounds_toArray, List.set_cons_zero, List.set_cons_succ]
        iterate 4 (refine wpG_quiet (by rfl) (by rfl) (by rfl) (fun K hK => ?_); go_big_quiet_op; refine hK _ ?_; clear hK K)
        refine wpG_nil fun w2 hl _ => ?_
        have hbw2 := hbr.trans (hl.mono hbr.size)
        go_wp2_with fail
        go_ret
        exact ⟨by rw [HRR.out]; rfl, hbw2⟩
end Go.Proofs.Yticdpfjajkfheaa

/- Patches as bytes: what PutPatch returns, the program's and the document's. -/
namespace Go.Proofs.Yticdpfjajkfheaa
set_option linter.unusedVariables false
open Go Go.RowKit BitM OctM

theorem flds_lst (x : BitVec 32) : flds x = lst x 8 := by
  have hh : ∀ n : Nat, has (x &&& 255#32) (n : Int) = (has x n && decide (n < 8)) := fun n => by
    rw [has_and_255 x n]
    first | rfl | (congr 1; simp; done) | (congr 1; simp; omega)
  unfold flds
  rw [lst_end (j := 8) (fun i hi => by rw [hh, decide_eq_false (by omega), Bool.and_false]) 32 (by omega)]
  unfold lst
  congr 1
  refine List.filter_congr fun i hi => ?_
  have h8 : i < 8 := by simpa using hi
  rw [hh, decide_eq_true h8, Bool.and_true]

set_option maxRecDepth 100000 in
set_option maxHeartbeats 3200000 in
theorem putpatch_any (x : BitVec 32) (lab : Int) (f : List V3) (A : Option Addr) (n c : Nat) (l : List UInt8) (w : World) (hf : f.length = 8) (hlb : 0 ≤ lab) (hn : l.length = n) (hs : Sees w w.heap.size A (bvs l)) (hm : n ≤ 10000) :
    Calls Try.prog 13 #[.slice A n c, .agg (pcells (x.toNat : Int) lab f).toArray] w (GivesBytes w (l ++ pbs x lab f)) := by
  have HCK := Lib.hid (fun wx : World => pcheck_any x lab f wx hf)
  have HCL := Lib.hid (fun (wx : World) (hb : Below w.heap.size w wx) => clone_any A n c l wx hn ((hs.below hb).more hb.size) (by omega))
  have HPLen : Hid ((pcells (x.toNat : Int) lab f).length = 26) := Lib.hid (pcells_len _ _ hf)
  have B0 := Blk.new w (pcells (x.toNat : Int) lab f) 29
  obtain ⟨pc, hpc⟩ : ∃ pc, pc = pcells (x.toNat : Int) lab f := ⟨_, rfl⟩
  rw [← hpc] at HCK B0 HPLen ⊢
  have hb0 := (Below.refl w.heap.size w).alloc (Nat.le_refl _) (.cells pc.toArray 29)
  have RG := B0.wholeC
  have hu := Try.underlying29
  have HFL : Hid ((fcells f).length = 24) := Lib.hid (by rw [fcells_len, hf])
  have hu8 := Try.underlying25
  obtain ⟨er, her⟩ : ∃ b, b = pchk x lab f := ⟨_, rfl⟩
  rw [← her] at HCK
  by_cases h0 : er = 0
  · have hok : pchk x lab f = 0 := her.symm.trans h0
    have hlab : lab < 65536 := by
      unfold pchk at hok
      split at hok
      · cases hok
      · split at hok
        · cases hok
        · omega
    have HB : Hid (l ++ pbs x lab f = l ++ ((enc (held (x.toNat : Int)) ++ (if has x 8 = true then enc (held lab) else [])) ++ fbs (flds x) f)) := Lib.hid (by unfold pbs; rw [if_neg (by rw [hok]; simp)])
    obtain ⟨R, hR⟩ : ∃ R, R = l ++ pbs x lab f := ⟨_, rfl⟩
    rw [← hR] at HB ⊢
    have HX := Lib.hid (fun (A' : Option Addr) (n' c' : Nat) (l' : List UInt8) (wx : World) (hn' : l'.length = n') (hs' : Sees wx wx.heap.size A' (bvs l')) (hm' : n' ≤ 10000) => putvals_any x f A' n' c' l' wx hf hn' hs' hm')
    have HLB := Lib.hid (fun wx : World => labels_any x wx)
    have hx4 := x.isLt
    have hfl := flds_len x
    have hf5 := fbs_len (flds x) f
    obtain ⟨X, hX⟩ : ∃ X, X = x.toNat := ⟨_, rfl⟩
    rw [← hX] at HX HB hx4 HLB hpc
    have HPC := Lib.hid hpc
    obtain ⟨b8, hb8⟩ : ∃ b, b = has x 8 := ⟨_, rfl⟩
    rw [← hb8] at HLB HB
    have be : (er != 0) = false := by simp [h0]
    obtain ⟨r1, hr1⟩ : ∃ r, r = enc (held (X : Int)) := ⟨_, rfl⟩
    obtain ⟨r2, hr2⟩ : ∃ r, r = r1 ++ (if b8 = true then enc (held lab) else []) := ⟨_, rfl⟩
    obtain ⟨r5, hr5⟩ : ∃ r, r = r2 ++ fbs (flds x) f := ⟨_, rfl⟩
    have e1 : r1.length ≤ 6 := by rw [hr1]; exact held_len _
    have e2 : r2.length ≤ 12 := by
      rw [hr2, List.length_append]
      have := held_len lab
      split <;> simp <;> omega
    have e5 : r5.length ≤ 2000 := by rw [hr5, List.length_append]; omega
    rw [← hr1, ← hr2, ← hr5] at HB
    have HN1 : Hid (∀ wx : World, Calls Try.prog 29 #[.slice none 0 0, .int .i64 (X : Int)] wx (GivesBytes wx r1)) := Lib.hid (fun wx => by
      have h := oct_num none 0 0 [] (X : Int) wx rfl Sees.nil_ (by omega)
      rw [List.nil_append, ← hr1] at h
      exact h)
    obtain ⟨n1, hn1⟩ : ∃ n, n = r1.length := ⟨_, rfl⟩
    obtain ⟨n2, hn2⟩ : ∃ n, n = r2.length := ⟨_, rfl⟩
    have HN2 : Hid (b8 = true → ∀ (A' : Option Addr) (c' : Nat) (wx : World), Sees wx wx.heap.size A' (bvs r1) → Calls Try.prog 29 #[.slice A' n1 c', .int .i64 lab] wx (GivesBytes wx r2)) := Lib.hid (fun hb A' c' wx hs' => by
      have h := oct_num A' n1 c' r1 lab wx hn1.symm hs' (by omega)
      rw [hb, if_pos rfl] at hr2
      rw [← hr2] at h; exact h)
    have HSK : Hid (b8 = false → r1 = r2) := Lib.hid (fun hb => by rw [hr2, hb]; simp)
    have HN5 : Hid (∀ (A' : Option Addr) (c' : Nat) (wx : World), Sees wx wx.heap.size A' (bvs r2) → Calls Try.prog 36 #[.slice A' n2 c', .int .u32 (X : Int), .agg (fcells f).toArray] wx (SeesBytes wx r5)) := Lib.hid (fun A' c' wx hs' => by
      have h := HX.out A' n2 c' r2 wx hn2.symm hs' (by omega)
      rw [← hr5] at h; exact h)
    have M1 := Lib.hid hn1
    have M2 := Lib.hid hn2
    have HS := Lib.hid hs
    have HNL := Lib.hid hn
    clear hr1 hr2 hr5 hn1 hn2 HX hs hn e1 e2 hR hX hpc hb8 hok her h0 hf hf5 hfl HCL
    obtain ⟨d0, d1⟩ := Blk.patch (m := (X : Int)) (lab := lab) (f := f) (by have := B0; rw [HPC.out] at this; exact this)
    clear d0 d1
    cases b8
    all_goals
      go_enter Try.func13, Try.ntmps13
      go_wp2_with (first
        | (refine wpList_load_mid rfl 29 (.tmp 3) rfl w.heap.size 0 rfl pc _ RG hu rfl (by rw [HPLen.out]; exact info_patch) ?_)
        | fail)
      refine (HCK.out _).mono ?_
      rintro e w1 ⟨rfl, hb1⟩
      have hbw := hb0.trans (hb1.mono hb0.size)
      replace B0 := B0.later hb1
      obtain ⟨p0, p1⟩ := Blk.patch (m := (X : Int)) (lab := lab) (f := f) (w := w1) (g := w.heap.size) (by rw [← HPC.out]; exact B0)
      clear RG hb1 hb0 HCK
      go_wp2_with fail
      refine (HN1.out _).mono ?_
      rintro e w2 ⟨A2, c2, rfl, o2, b2⟩
      have hs2 := o2.sees
      replace B0 := B0.later b2
      replace hbw := hbw.trans (b2.mono hbw.size)
      clear p0 p1
      obtain ⟨p0, p1⟩ := Blk.patch (m := (X : Int)) (lab := lab) (f := f) (w := w2) (g := w.heap.size) (by rw [← HPC.out]; exact B0)
      rw [← M1.out]
      clear o2 b2
      go_wp2_with fail
      refine (HLB.out _).mono ?_
      rintro e w3 ⟨rfl, rfl⟩
    · have HS12 := HSK.out trivial
      have hn12 : n1 = n2 := by rw [M1.out, M2.out, HS12]
      rw [HS12] at hs2
      clear HSK HN2 HS12 M1 HN1 p1
      subst hn12
      have RF : w2.rangeAt w.heap.size 2 (fcells f) := Blk.fieldsP (by rw [← HPC.out]; exact B0)
      go_wp2_with (first
        | (refine wpList_load_mid rfl 25 (.tmp 27) rfl w.heap.size 2 rfl (fcells f) _ RF hu8 rfl (by rw [HFL.out]; exact info_fields) ?_)
        | fail)
      refine (HN5.out _ _ _ hs2).mono ?_
      rintro e w6 ⟨A5, c5, rfl, s5, b5⟩
      replace hbw := hbw.trans (b5.mono hbw.size)
      have hsA : Sees w6 w6.heap.size A (bvs l) := (HS.out.below hbw).more hbw.size
      obtain ⟨n5, hn5⟩ : ∃ n, n = r5.length := ⟨_, rfl⟩
      rw [← hn5]
      have HCC := Lib.hid (concat_any w6.heap.size 2 2 [l, r5] (w6.alloc (.cells #[.slice A n c, .slice A5 n5 c5] 30)) rfl (by simp) (flat2 30 HNL.out hn5.symm hsA s5) (by omega) (by have := HNL.out; simp; omega))
      have HFL2 : Hid ([l, r5].flatten = R) := Lib.hid (by rw [HB.out]; simp)
      rw [HFL2.out] at HCC
      have hbw2 := hbw.alloc hbw.size (.cells #[.slice A n c, .slice A5 n5 c5] 30)
      clear hn5 s5 b5 B0 RF hsA hbw
      go_wp2_with fail
      refine HCC.out.mono ?_
      rintro e w7 ⟨A7, c7, rfl, o7, b7⟩
      go_wp2_with fail
      go_ret
      exact ⟨A7, c7, rfl, o7.lower hbw2.size, hbw2.trans (b7.mono hbw2.size)⟩
    · clear HSK
      go_wp2_with fail
      refine (HN2.out trivial _ _ _ hs2).mono ?_
      rintro e w4 ⟨A4, c4, rfl, o4, b4⟩
      have hs4 := o4.sees
      replace B0 := B0.later b4
      replace hbw := hbw.trans (b4.mono hbw.size)
      rw [← M2.out]
      clear p0 p1
      obtain ⟨p0, p1⟩ := Blk.patch (m := (X : Int)) (lab := lab) (f := f) (w := w4) (g := w.heap.size) (by rw [← HPC.out]; exact B0)
      have RF : w4.rangeAt w.heap.size 2 (fcells f) := Blk.fieldsP (by rw [← HPC.out]; exact B0)
      clear o4 b4 hs2 HN2 HN1
      go_wp2_with (first
        | (refine wpList_load_mid rfl 25 (.tmp 27) rfl w.heap.size 2 rfl (fcells f) _ RF hu8 rfl (by rw [HFL.out]; exact info_fields) ?_)
        | fail)
      refine (HN5.out _ _ _ hs4).mono ?_
      rintro e w6 ⟨A5, c5, rfl, s5, b5⟩
      replace hbw := hbw.trans (b5.mono hbw.size)
      have hsA : Sees w6 w6.heap.size A (bvs l) := (HS.out.below hbw).more hbw.size
      obtain ⟨n5, hn5⟩ : ∃ n, n = r5.length := ⟨_, rfl⟩
      rw [← hn5]
      have HCC := Lib.hid (concat_any w6.heap.size 2 2 [l, r5] (w6.alloc (.cells #[.slice A n c, .slice A5 n5 c5] 30)) rfl (by simp) (flat2 30 HNL.out hn5.symm hsA s5) (by omega) (by have := HNL.out; simp; omega))
      have HFL2 : Hid ([l, r5].flatten = R) := Lib.hid (by rw [HB.out]; simp)
      rw [HFL2.out] at HCC
      have hbw2 := hbw.alloc hbw.size (.cells #[.slice A n c, .slice A5 n5 c5] 30)
      clear hn5 s5 b5 B0 RF hsA hbw
      go_wp2_with fail
      refine HCC.out.mono ?_
      rintro e w7 ⟨A7, c7, rfl, o7, b7⟩
      go_wp2_with fail
      go_ret
      exact ⟨A7, c7, rfl, o7.lower hbw2.size, hbw2.trans (b7.mono hbw2.size)⟩
  · have HB : Hid (l ++ pbs x lab f = l) := Lib.hid (by unfold pbs; rw [if_pos (by rw [← her]; exact h0)]; simp)
    rw [HB.out]
    have be : (er != 0) = true := by simp [h0]
    clear HB her h0 hpc hs hn
    go_enter Try.func13, Try.ntmps13
    go_wp2_with (first
      | (refine wpList_load_mid rfl 29 (.tmp 3) rfl w.heap.size 0 rfl pc _ RG hu rfl (by rw [HPLen.out]; exact info_patch) ?_)
      | fail)
    refine (HCK.out _).mono ?_
    rintro e w1 ⟨rfl, hb1⟩
    have hbw := hb0.trans (hb1.mono hb0.size)
    clear RG hb1 hb0
    go_wp2_with fail
    refine (HCL.out _ hbw).mono ?_
    rintro e w2 ⟨A2, c2, rfl, ho, hb2⟩
    go_wp2_with fail
    go_ret
    exact ⟨A2, c2, rfl, ho.lower hbw.size, hbw.trans (hb2.mono hbw.size)⟩
end Go.Proofs.Yticdpfjajkfheaa

/- Patches as bytes, by the document: what its PutPatch returns. -/
namespace Go.Proofs.Yticdpfjajkfheaa
set_option linter.unusedVariables false
open Go Go.RowKit BitM OctM

theorem fbs_lst_put (x : BitVec 32) (f : List V3) (k : Nat) (h : has x (k : Int) = true) : fbs (lst x (k + 1)) f = fbs (lst x k) f ++ vbs (f.getD k zv) := by
  rw [lst_succ, if_pos h, fbs_snoc]; simp
theorem lst_skip (x : BitVec 32) (k : Nat) (h : has x (k : Int) = false) : lst x (k + 1) = lst x k := by
  rw [lst_succ, if_neg (by rw [h]; simp)]; simp

set_option maxRecDepth 100000 in
set_option maxHeartbeats 3200000 in
theorem rputpatch_any (x : BitVec 32) (lab : Int) (f : List V3) (w : World) (hf : f.length = 8) (hlb : 0 ≤ lab) :
    Calls Try.prog 14 #[.agg (pcells (x.toNat : Int) lab f).toArray] w fun e w' => e = .returned (.string (str (pbs x lab f))) ∧ Below w.heap.size w w' := by
  have HCK := Lib.hid (fun wx : World => rpcheck_any x lab f wx hf)
  have HPLen : Hid ((pcells (x.toNat : Int) lab f).length = 26) := Lib.hid (pcells_len _ _ hf)
  have B0 := Blk.new w (pcells (x.toNat : Int) lab f) 29
  obtain ⟨pc, hpc⟩ : ∃ pc, pc = pcells (x.toNat : Int) lab f := ⟨_, rfl⟩
  rw [← hpc] at HCK B0 HPLen ⊢
  have hb0 := (Below.refl w.heap.size w).alloc (Nat.le_refl _) (.cells pc.toArray 29)
  have RG := B0.wholeC
  have hu := Try.underlying29
  have HF := Lib.hid hf
  obtain ⟨er, her⟩ : ∃ b, b = pchk x lab f := ⟨_, rfl⟩
  rw [← her] at HCK
  by_cases h0 : er = 0
  · have hok : pchk x lab f = 0 := her.symm.trans h0
    have hlab : lab < 65536 := by
      unfold pchk at hok
      split at hok
      · cases hok
      · split at hok
        · cases hok
        · omega
    have HB : Hid (pbs x lab f = (enc (held (x.toNat : Int)) ++ (if has x 8 = true then enc (held lab) else [])) ++ fbs (lst x 8) f) := Lib.hid (by unfold pbs; rw [if_neg (by rw [hok]; simp), flds_lst])
    obtain ⟨R, hR⟩ : ∃ R, R = str (pbs x lab f) := ⟨_, rfl⟩
    have HR := Lib.hid hR
    rw [← hR]
    have HPC := Lib.hid hpc
    have be : (er != 0) = false := by simp [h0]
    have HLB := Lib.hid (fun wx : World => rlabels_any x wx)
    have HHS := Lib.hid (fun (k : Nat) (wx : World) => rhas_any x (k : Int) wx)
    have HN1 := Lib.hid (fun wx : World => ref_num (x.toNat : Int) wx)
    have HN2 := Lib.hid (fun wx : World => ref_num lab wx)
    obtain ⟨s1, hs1⟩ : ∃ s, s = str (enc (held (x.toNat : Int))) := ⟨_, rfl⟩
    obtain ⟨s2, hs2⟩ : ∃ s, s = str (enc (held lab)) := ⟨_, rfl⟩
    rw [← hs1] at HN1
    rw [← hs2] at HN2
    have z1 : s1.size ≤ 6 := by rw [hs1, str_size]; exact held_len _
    have z2 : s2.size ≤ 6 := by rw [hs2, str_size]; exact held_len _
    obtain ⟨b8, hb8⟩ : ∃ b, b = has x 8 := ⟨_, rfl⟩
    rw [← hb8] at HLB HB
    obtain ⟨s0, hs0⟩ : ∃ s, s = if b8 = true then s1 ++ s2 else s1 := ⟨_, rfl⟩
    have z0 : s0.size ≤ 12 := by
      rw [hs0]
      split
      · rw [ByteArray.size_append]; omega
      · omega
    have HRR : Hid (∀ t : ByteArray, t = str (fbs (lst x 8) f) → s0 ++ t = R) := Lib.hid (fun t ht => by
      rw [HR.out, HB.out, hs0, ht, hs1, hs2]
      cases b8
      · simp [str_append]
      · simp [str_append])
    have HS0 : Hid (b8 = false → s1 = s0) := Lib.hid (fun hb => by rw [hs0, hb]; simp)
    have HS1 : Hid (b8 = true → s1 ++ s2 = s0) := Lib.hid (fun hb => by rw [hs0, hb]; simp)
    have hx4 := x.isLt
    obtain ⟨X, hX⟩ : ∃ X, X = x.toNat := ⟨_, rfl⟩
    rw [← hX] at HN1 hx4 HHS HLB HPC
    obtain ⟨p0, p1⟩ := Blk.patch (m := (X : Int)) (lab := lab) (f := f) (by have := B0; rw [HPC.out] at this; exact this)
    clear hs1 hs2 hs0 hR hpc hb8 hok her h0 hf hX HB p0 p1
    cases b8
    all_goals
      go_enter Try.func14, Try.ntmps14
      go_wp2_with (first
        | (refine wpList_load_mid rfl 29 (.tmp 1) rfl w.heap.size 0 rfl pc _ RG hu rfl (by rw [HPLen.out]; exact info_patch) ?_)
        | fail)
      refine (HCK.out _).mono ?_
      rintro e w1 ⟨rfl, hb1⟩
      have hbw := hb0.trans (hb1.mono hb0.size)
      replace B0 := B0.later hb1
      obtain ⟨p0, p1⟩ := Blk.patch (m := (X : Int)) (lab := lab) (f := f) (w := w1) (g := w.heap.size) (by rw [← HPC.out]; exact B0)
      clear RG hb1 hb0 HCK
      go_wp2_with fail
      refine (HN1.out _).mono ?_
      rintro e w2 ⟨rfl, hb2⟩
      replace hbw := hbw.trans (hb2.mono hbw.size)
      replace B0 := B0.later hb2
      clear p0 p1 hb2
      obtain ⟨p0, p1⟩ := Blk.patch (m := (X : Int)) (lab := lab) (f := f) (w := w2) (g := w.heap.size) (by rw [← HPC.out]; exact B0)
      go_wp2_with fail
      refine (HLB.out _).mono ?_
      rintro e w3 ⟨rfl, rfl⟩
    · have HE : Hid (s1 = s0 ++ ⟨#[]⟩) := Lib.hid (by rw [HS0.out trivial]; exact (ByteArray.append_empty (b := s0)).symm)
      have z1' : s1.size ≤ 12 := by omega
      clear HS0 HS1
      go_wp2_with fail
      clear HN1 HN2 z1 z2 HLB hx4
      go_loopw [3, 4] (fun sv i wr => ∃ k : Nat, k ≤ 8 ∧ i = .int .i64 k ∧ (∃ t u : ByteArray, sv = .string t ∧ Hid (t = s0 ++ u ∧ u = str (fbs (lst x k) f)) ∧ t.size ≤ 12 + 40 * k) ∧ Blk wr w.heap.size pc ∧ Below w.heap.size w wr) (fun _ i _ => 8 - (intOf i).toNat)
      case atStart => exact ⟨0, by omega, rfl, ⟨_, ⟨#[]⟩, rfl, Lib.hid ⟨HE.out, rfl⟩, by omega⟩, B0, hbw⟩
      case round =>
        obtain ⟨k, hk, rfl, ⟨t, u, rfl, HT, ht⟩, D0, hbr⟩ := hrel
        by_cases hlt : k < 8
        · have hkf : k < f.length := by rw [HF.out]; exact hlt
          have HH := Lib.hid (fun wx : World => HHS.out k wx)
          have c0 : ∀ kk : LW wr, kk.val.cell? ⟨w.heap.size, 0, none⟩ = some (.int .u32 (X : Int)) := fun kk => (Blk.patch (lab := lab) (f := f) (by have := D0.later kk.le; rw [HPC.out] at this; exact this)).1
          obtain ⟨p0, p1⟩ := Blk.patch (m := (X : Int)) (lab := lab) (f := f) (w := wr) (g := w.heap.size) (by rw [← HPC.out]; exact D0)
          obtain ⟨l0, l1, l2⟩ := Blk.field (pre := [.int .u32 (X : Int), .int .u32 lab]) (f := f) (g := w.heap.size) (w := wr) (by have := D0; rw [HPC.out] at this; exact this) 2 k rfl hkf
          have hg : f.getD k zv = f[k] := by simp [List.getD, hkf]
          obtain ⟨⟨v0, v1, v2⟩, hv⟩ : ∃ v, v = f[k] := ⟨_, rfl⟩
          rw [← hv] at l0 l1 l2 hg
          simp only at l0 l1 l2
          have hki : (k : Int) < 8 := by omega
          have hk0 : (0 : Int) ≤ (k : Int) := by omega
          obtain ⟨bk, hbk⟩ : ∃ b, b = has x (k : Int) := ⟨_, rfl⟩
          rw [← hbk] at HH
          cases bk
          · have HK2 : Hid (lst x (k + 1) = lst x k) := Lib.hid (lst_skip x k hbk.symm)
            clear hbk hv hg hkf l0 l1 l2 p1 c0
            go_wp2_with fail
            refine (HH.out _).mono ?_
            rintro e w4 ⟨rfl, rfl⟩
            go_wp2_with fail
            go_roundw
            case rel => exact ⟨k + 1, by omega, by go_num, ⟨t, u, rfl, Lib.hid ⟨HT.out.1, by rw [HK2.out]; exact HT.out.2⟩, by omega⟩, D0, hbr⟩
            case measure => simp [intOf]; omega
          · have HK2 : Hid (fbs (lst x (k + 1)) f = fbs (lst x k) f ++ vbs (v0, v1, v2)) := Lib.hid (by rw [← hg]; exact fbs_lst_put x f k hbk.symm)
            have HPV := Lib.hid (fun wx : World => rputval_any v0 v1 v2 wx)
            obtain ⟨t2, ht2⟩ : ∃ t2, t2 = str (vbs (v0, v1, v2)) := ⟨_, rfl⟩
            rw [← ht2] at HPV
            have hz2 : t2.size ≤ 40 := by rw [ht2, str_size]; exact vbs_len _
            have HTT : Hid (t ++ t2 = s0 ++ (u ++ t2) ∧ u ++ t2 = str (fbs (lst x (k + 1)) f)) := Lib.hid ⟨by rw [HT.out.1, ByteArray.append_assoc], by rw [HK2.out, HT.out.2, ht2]; first | exact (str_append _ _).symm | exact str_append _ _⟩
            have hsz : (t ++ t2).size = t.size + t2.size := by simp
            have HSZ := Lib.hid hsz
            clear hbk hv hg hkf ht2 hsz p1 c0
            go_wp2_with fail
            refine (HH.out _).mono ?_
            rintro e w4 ⟨rfl, rfl⟩
            go_wp2_with fail
            refine (HPV.out _).mono ?_
            rintro e w4 ⟨rfl, hb4⟩
            have D2 := D0.later hb4
            have hbr2 := hbr.trans (hb4.mono hbr.size)
            clear D0 hb4 hbr l0 l1 l2
            go_wp2_with fail
            go_roundw
            case rel => exact ⟨k + 1, by omega, by go_num, ⟨t ++ t2, u ++ t2, rfl, HTT, by rw [HSZ.out]; omega⟩, D2, hbr2⟩
            case measure => simp [intOf]; omega
        · obtain rfl : k = 8 := by omega
          have HR8 := HRR.out u HT.out.2
          rw [← HT.out.1] at HR8
          subst HR8
          clear HRR HT
          go_wp2_with fail
          go_ret
          exact ⟨rfl, hbr⟩
    · have HE : Hid (s1 ++ s2 = s0 ++ ⟨#[]⟩) := Lib.hid (by rw [HS1.out trivial]; exact (ByteArray.append_empty (b := s0)).symm)
      have z1' : (s1 ++ s2).size ≤ 12 := by rw [ByteArray.size_append]; omega
      have Z1 := Lib.hid z1'
      clear HS0 HS1 z1'
      go_wp2_with fail
      refine (HN2.out _).mono ?_
      rintro e w4 ⟨rfl, hb4⟩
      replace hbw := hbw.trans (hb4.mono hbw.size)
      replace B0 := B0.later hb4
      clear p0 p1 hb4
      go_wp2_with fail
      have z1' := Z1.out
      clear HN1 HN2 z1 z2 HLB hx4
      go_loopw [3, 4] (fun sv i wr => ∃ k : Nat, k ≤ 8 ∧ i = .int .i64 k ∧ (∃ t u : ByteArray, sv = .string t ∧ Hid (t = s0 ++ u ∧ u = str (fbs (lst x k) f)) ∧ t.size ≤ 12 + 40 * k) ∧ Blk wr w.heap.size pc ∧ Below w.heap.size w wr) (fun _ i _ => 8 - (intOf i).toNat)
      case atStart => exact ⟨0, by omega, rfl, ⟨_, ⟨#[]⟩, rfl, Lib.hid ⟨HE.out, rfl⟩, by omega⟩, B0, hbw⟩
      case round =>
        obtain ⟨k, hk, rfl, ⟨t, u, rfl, HT, ht⟩, D0, hbr⟩ := hrel
        by_cases hlt : k < 8
        · have hkf : k < f.length := by rw [HF.out]; exact hlt
          have HH := Lib.hid (fun wx : World => HHS.out k wx)
          have c0 : ∀ kk : LW wr, kk.val.cell? ⟨w.heap.size, 0, none⟩ = some (.int .u32 (X : Int)) := fun kk => (Blk.patch (lab := lab) (f := f) (by have := D0.later kk.le; rw [HPC.out] at this; exact this)).1
          obtain ⟨p0, p1⟩ := Blk.patch (m := (X : Int)) (lab := lab) (f := f) (w := wr) (g := w.heap.size) (by rw [← HPC.out]; exact D0)
          obtain ⟨l0, l1, l2⟩ := Blk.field (pre := [.int .u32 (X : Int), .int .u32 lab]) (f := f) (g := w.heap.size) (w := wr) (by have := D0; rw [HPC.out] at this; exact this) 2 k rfl hkf
          have hg : f.getD k zv = f[k] := by simp [List.getD, hkf]
          obtain ⟨⟨v0, v1, v2⟩, hv⟩ : ∃ v, v = f[k] := ⟨_, rfl⟩
          rw [← hv] at l0 l1 l2 hg
          simp only at l0 l1 l2
          have hki : (k : Int) < 8 := by omega
          have hk0 : (0 : Int) ≤ (k : Int) := by omega
          obtain ⟨bk, hbk⟩ : ∃ b, b = has x (k : Int) := ⟨_, rfl⟩
          rw [← hbk] at HH
          cases bk
          · have HK2 : Hid (lst x (k + 1) = lst x k) := Lib.hid (lst_skip x k hbk.symm)
            clear hbk hv hg hkf l0 l1 l2 p1 c0
            go_wp2_with fail
            refine (HH.out _).mono ?_
            rintro e w4 ⟨rfl, rfl⟩
            go_wp2_with fail
            go_roundw
            case rel => exact ⟨k + 1, by omega, by go_num, ⟨t, u, rfl, Lib.hid ⟨HT.out.1, by rw [HK2.out]; exact HT.out.2⟩, by omega⟩, D0, hbr⟩
            case measure => simp [intOf]; omega
          · have HK2 : Hid (fbs (lst x (k + 1)) f = fbs (lst x k) f ++ vbs (v0, v1, v2)) := Lib.hid (by rw [← hg]; exact fbs_lst_put x f k hbk.symm)
            have HPV := Lib.hid (fun wx : World => rputval_any v0 v1 v2 wx)
            obtain ⟨t2, ht2⟩ : ∃ t2, t2 = str (vbs (v0, v1, v2)) := ⟨_, rfl⟩
            rw [← ht2] at HPV
            have hz2 : t2.size ≤ 40 := by rw [ht2, str_size]; exact vbs_len _
            have HTT : Hid (t ++ t2 = s0 ++ (u ++ t2) ∧ u ++ t2 = str (fbs (lst x (k + 1)) f)) := Lib.hid ⟨by rw [HT.out.1, ByteArray.append_assoc], by rw [HK2.out, HT.out.2, ht2]; first | exact (str_append _ _).symm | exact str_append _ _⟩
            have hsz : (t ++ t2).size = t.size + t2.size := by simp
            have HSZ := Lib.hid hsz
            clear hbk hv hg hkf ht2 hsz p1 c0
            go_wp2_with fail
            refine (HH.out _).mono ?_
            rintro e w4 ⟨rfl, rfl⟩
            go_wp2_with fail
            refine (HPV.out _).mono ?_
            rintro e w4 ⟨rfl, hb4⟩
            have D2 := D0.later hb4
            have hbr2 := hbr.trans (hb4.mono hbr.size)
            clear D0 hb4 hbr l0 l1 l2
            go_wp2_with fail
            go_roundw
            case rel => exact ⟨k + 1, by omega, by go_num, ⟨t ++ t2, u ++ t2, rfl, HTT, by rw [HSZ.out]; omega⟩, D2, hbr2⟩
            case measure => simp [intOf]; omega
        · obtain rfl : k = 8 := by omega
          have HR8 := HRR.out u HT.out.2
          rw [← HT.out.1] at HR8
          subst HR8
          clear HRR HT
          go_wp2_with fail
          go_ret
          exact ⟨rfl, hbr⟩
  · have HB : Hid (str (pbs x lab f) = ⟨#[]⟩) := Lib.hid (by unfold pbs; rw [if_pos (by rw [← her]; exact h0)]; rfl)
    rw [HB.out]
    have be : (er != 0) = true := by simp [h0]
    clear HB her h0 hpc hf
    go_enter Try.func14, Try.ntmps14
    go_wp2_with (first
      | (refine wpList_load_mid rfl 29 (.tmp 1) rfl w.heap.size 0 rfl pc _ RG hu rfl (by rw [HPLen.out]; exact info_patch) ?_)
      | fail)
    refine (HCK.out _).mono ?_
    rintro e w1 ⟨rfl, hb1⟩
    have hbw := hb0.trans (hb1.mono hb0.size)
    clear RG hb1 hb0
    go_wp2_with fail
    go_ret
    exact ⟨rfl, hbw⟩
end Go.Proofs.Yticdpfjajkfheaa

/- Cards as bytes: whether the layer is awake; a slice of bytes as a string. -/
namespace Go.Proofs.Yticdpfjajkfheaa
set_option linter.unusedVariables false
open Go Go.RowKit BitM OctM

theorem str_conv (w : World) (B : Nat) (A : Option Addr) (n c : Nat) (l : List UInt8) (s : ByteArray) (hn : l.length = n) (hs : Sees w B A (bvs l)) (h : s = str l) : (convert 30 9 (.slice A n c)).run Try.prog w = .ok (.string s) w := by
  subst h
  exact run_str (P := Try.prog) w B 30 5 9 Try.underlying30 Try.underlying5 Try.underlying9 A n c l hn hs

section
variable {P : Program} {w : World} {a : Act} {op : Oper}
theorem exec_conv (x : Operand) (t u : TypeId) (ho : op.op = .convert t u x) (v : Value) (hx : a.eval x = v) (r : Value) (h : (convert t u v).run P w = .ok r w) : (execOp a.eval op).run P w = .ok (.value r) w := by
  unfold execOp
  simp only [ho, hx, Sem.run_bind, Sem.run_pure, Result.andThen_ok, h]
end

/-- The card that awake writes. -/
def awk : List V3 := zv :: (1, 7, ⟨#[]⟩) :: List.replicate 6 zv
theorem awk_bytes : cbs 1 2 1 awk = [1, 2, 1, 2, 1, 7] := by decide +kernel
theorem awk_cells : (ccells 1 2 1 zeros).take 6 ++ vcells (1, 7, ⟨#[]⟩) ++ (ccells 1 2 1 zeros).drop 9 = ccells 1 2 1 awk := rfl

set_option maxRecDepth 100000 in
set_option maxHeartbeats 3200000 in
theorem wire_awake (w : World) : Calls Try.prog 8 #[] w fun e w' => e = .returned (.bool true) ∧ Below w.heap.size w w' := by
  have HPC := Lib.hid (fun wx : World => putcard_any 1 2 1 awk none 0 0 [] wx rfl (by decide) rfl Sees.nil_ (by omega))
  rw [List.nil_append, awk_bytes] at HPC
  have B1 := Blk.new w (ccells 0 0 0 zeros) 27
  have T1 := B1.there 0 27 (by rw [ccells_len 0 0 0 zeros_len]; omega)
  have F1 := B1.whole (ds := ccells 1 2 1 zeros) rfl
  have T2 := F1.there 6 3 (by rw [ccells_len 1 2 1 zeros_len]; omega)
  have F2 := F1.sets (vcells (1, 7, ⟨#[]⟩)) 6 (by rw [ccells_len 1 2 1 zeros_len]; decide)
  have F2' : Blk (((w.alloc (.cells (ccells 0 0 0 zeros).toArray 27)).setCells w.heap.size 0 (ccells 1 2 1 zeros)).setCells w.heap.size 6 (vcells (1, 7, ⟨#[]⟩))) w.heap.size (ccells 1 2 1 awk) := F2
  have hb2 : Below w.heap.size w (((w.alloc (.cells (ccells 0 0 0 zeros).toArray 27)).setCells w.heap.size 0 (ccells 1 2 1 zeros)).setCells w.heap.size 6 (vcells (1, 7, ⟨#[]⟩))) := below_sets (Nat.le_refl _) _ 6 (below_sets (Nat.le_refl _) _ 0 ((Below.refl w.heap.size w).alloc (Nat.le_refl _) _))
  have O1 : (ccells 1 2 1 zeros).toArray.all (·.oneCell') = true := all_oneCell_toArray (ccells_one _ _ _ _)
  have O2 : (vcells (1, 7, ⟨#[]⟩)).toArray.all (·.oneCell') = true := all_oneCell_toArray (by intro v hv; simp only [vcells, List.mem_cons, List.not_mem_nil, or_false] at hv; rcases hv with rfl | rfl | rfl <;> rfl)
  have hu := Try.underlying27
  have hlen : (ccells 1 2 1 awk).length = 27 := ccells_len 1 2 1 rfl
  obtain ⟨ck, hck⟩ : ∃ z, z = ccells 1 2 1 awk := ⟨_, rfl⟩
  rw [← hck] at F2' HPC hlen
  have HL := Lib.hid hlen
  clear F2 F1 B1 hck hlen
  go_enter Try.func8, Try.ntmps8
  go_wp2_with (first
    | (refine wpList_store_mid rfl 27 (.tmp 1) (.tmp 2) rfl w.heap.size 0 (ccells 1 2 1 zeros).toArray rfl rfl T1 info_card O1 ?_
       simp only [Act.put]
       generalize hw6 : World.setCells _ w.heap.size 0 (ccells 1 2 1 zeros).toArray.toList = w6
       have T2' : w6.there w.heap.size 6 3 := hw6 ▸ T2
       have F6 : Blk (w6.setCells w.heap.size 6 (vcells (1, 7, ⟨#[]⟩))) w.heap.size ck := hw6 ▸ F2'
       have hb6 : Below w.heap.size w (w6.setCells w.heap.size 6 (vcells (1, 7, ⟨#[]⟩))) := hw6 ▸ hb2
       clear hw6 T1 T2 F2' hb2 O1)
    | (refine wpList_store_mid rfl 24 (.tmp 5) (.tmp 3) rfl w.heap.size 6 (vcells (1, 7, ⟨#[]⟩)).toArray rfl rfl T2' info_val O2 ?_
       simp only [Act.put]
       generalize hw7 : World.setCells _ w.heap.size 6 (vcells (1, 7, ⟨#[]⟩)).toArray.toList = w7
       have F7 : Blk w7 w.heap.size ck := hw7 ▸ F6
       have hb7 : Below w.heap.size w w7 := hw7 ▸ hb6
       have RG := F7.wholeC
       clear hw7 T2' F6 F7 hb6 O2)
    | (refine wpList_load_mid rfl 27 (.tmp 1) rfl w.heap.size 0 rfl ck _ RG hu rfl (by rw [HL.out]; exact info_card) ?_)
    | fail)
  refine (HPC.out _).mono ?_
  rintro e w8 ⟨A8, c8, rfl, o8, b8⟩
  have hr := str_conv w8 w8.heap.size A8 6 c8 _ ⟨#[1, 2, 1, 2, 1, 7]⟩ rfl o8.sees rfl
  clear RG o8
  go_wp2_with (first
    | (refine wpList_exec (by rfl) (.string ⟨#[1, 2, 1, 2, 1, 7]⟩) (exec_conv (.tmp 7) 30 9 rfl _ rfl _ hr) ?_)
    | fail)
  go_ret
  exact ⟨rfl, hb7.trans (b8.mono hb7.size)⟩
end Go.Proofs.Yticdpfjajkfheaa
