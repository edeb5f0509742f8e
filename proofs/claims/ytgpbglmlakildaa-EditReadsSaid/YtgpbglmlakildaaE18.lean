/- Cards as they are read of bytes: the program's: the walk. -/
import Derived.Test.YtgpbglmlakildaaE10
import Derived.Test.YtgpbglmlakildaaE11
import Derived.Test.YtgpbglmlakildaaE16
import Derived.Test.YtgpbglmlakildaaE3
import Derived.Test.YtgpbglmlakildaaE17
import Derived.Test.YtgpbglmlakildaaE15
namespace Go.Proofs.Ytgpbglmlakildaa
set_option linter.unusedVariables false
open Go Go.RowKit OctM BitM

theorem fld_nat {x : BitVec 32} {k : Nat} {L : List Int} (hL : L = flds x) (hk : k < L.length) : ∃ j : Nat, L[k] = (j : Int) ∧ j < 8 := by
  obtain ⟨h0, h8, _⟩ := (mem_flds x L[k]).1 (by rw [← hL]; exact List.getElem_mem hk)
  obtain ⟨j, hj⟩ := Int.eq_ofNat_of_zero_le h0
  exact ⟨j, hj, by omega⟩

end Go.Proofs.Ytgpbglmlakildaa

/- Values, cards and patches as they are read of no reader. -/
namespace Go.Proofs.Ytgpbglmlakildaa
set_option linter.unusedVariables false
open Go Go.RowKit OctM BitM

def relB (B : Nat) (cs : List Value) : Rel where
  rel x w := ∃ g, x = .pointer (some ⟨g, 0, none⟩) ∧ B ≤ g ∧ Blk w g cs
  mono := fun x w w' h ⟨g, e, hg, hr⟩ => ⟨g, e, hg, hr.later h⟩
  real := fun w ⟨g, e, _⟩ => by cases e
theorem fields_zero (w : World) : Calls Try.prog 111 #[.int .u32 0] w fun e w' => ∃ A c, e = .returned (.slice A 0 c) ∧ Below w.heap.size w w' := by
  have h := fields_any 0#32 w
  have hf : flds 0#32 = [] := by decide +kernel
  rw [hf] at h
  exact h.mono fun e w' ⟨A, c, he, _, hb⟩ => ⟨A, c, he, hb⟩

set_option maxRecDepth 100000 in
set_option maxHeartbeats 1600000 in
theorem nil_value (w : World) : Calls Try.prog 97 #[.pointer none] w fun x w' => x = .returned (.agg (vcells zv).toArray) ∧ Below w.heap.size w w' := by
  have hu := Try.underlying27
  have B2 := Blk.new w (vcells zv) 27
  have hb := (Below.refl w.heap.size w).alloc (Nat.le_refl _) (.cells (vcells zv).toArray 27)
  go_enter Try.func97, Try.ntmps97
  go_wp2_with fail
  refine (nil_num _ _).mono ?_
  rintro x w1 ⟨rfl, h1⟩
  generalize hw0 : w.alloc (.cells #[Value.int .i64 0, .int .i64 0, .string { data := #[] }] 27) = w0 at h1
  have B2' : Blk w0 w.heap.size (vcells zv) := hw0 ▸ B2
  have hb0 : Below w.heap.size w w0 := hw0 ▸ hb
  clear B2 hb hw0
  subst h1
  have B3 := Blk.new w0 (vcells zv) 27
  have T3 := B3.there 0 3 (Nat.le_refl _)
  have S3 := B3.wholeT (ds := vcells zv) rfl
  have LE3 : Le w0 (World.setCells (w0.alloc (.cells (vcells zv).toArray 27)) w0.heap.size 0 (vcells zv)) := below_sets (Nat.le_refl _) _ 0 ((Below.refl w0.heap.size w0).alloc (Nat.le_refl _) _)
  have O3 : (vcells zv).toArray.all (·.oneCell') = true := vcells_all _
  have hsz := hb0.size
  have hb2 := B2'.lt
  obtain ⟨g3, hg3⟩ : ∃ z, z = w0.heap.size := ⟨_, rfl⟩
  rw [← hg3] at T3 S3 LE3 hsz hb2
  have HG3 := Lib.hid hg3
  clear hg3 B3
  go_wp2_with (first
    | (rw [← HG3.out]
       refine wpList_store_mid rfl 27 (.tmp 3) (.tmp 6) rfl g3 0 (vcells zv).toArray rfl rfl T3 info_val O3 ?_
       simp only [Act.put]
       generalize hw3 : World.setCells _ g3 0 (vcells zv).toArray.toList = w3
       have S4 : Blk w3 g3 (vcells zv) := hw3 ▸ S3
       have LE3' : Le w0 w3 := hw3 ▸ LE3
       have q1 : w3.cell? ⟨g3, 0, none⟩ = some (.int .i64 0) := S4.cell rfl
       clear hw3 T3 S3 LE3)
    | fail)
  refine (nil_err _).mono ?_
  rintro x w4 ⟨rfl, rfl⟩
  replace B2' := B2'.later LE3'
  replace hb0 := hb0.trans (LE3'.mono hb0.size)
  have T8 := B2'.there 0 3 (Nat.le_refl _)
  have FIN := B2'.wholeT (ds := vcells zv) rfl
  have H9 := below_sets (Nat.le_refl w.heap.size) (vcells zv) 0 hb0
  clear q1 S4
  go_wp2_with (first
    | (refine wpList_store_mid rfl 27 (.tmp 2) (.tmp 22) rfl w.heap.size 0 (vcells zv).toArray rfl rfl T8 info_val O3 ?_)
    | fail)
  exact bodyPost_ret (v := .agg (vcells zv).toArray) (tok_results (q := 2) rfl _ _ w.heap.size _ _ rfl FIN hu rfl info_val) rfl ⟨rfl, H9⟩
set_option maxRecDepth 100000 in
theorem nil_above (w : World) (m : Int) : Calls Try.prog 109 #[.pointer none, .int .i64 m] w fun x w' => x = .returned (.int .i64 0) ∧ w = w' := by
  go_enter Try.func109, Try.ntmps109
  go_wp2_with fail
  refine (nil_num _ _).mono ?_
  rintro x w1 ⟨rfl, rfl⟩
  go_wp2_with fail
  refine (nil_fail _ _).mono ?_
  rintro x w1 ⟨rfl, rfl⟩
  go_wp2_with fail
  go_ret
  exact ⟨rfl, rfl⟩
set_option maxRecDepth 100000 in
set_option maxHeartbeats 3200000 in
theorem nil_patch (w : World) : Calls Try.prog 84 #[.pointer none] w fun x w' => x = .returned (.agg (pcells 0 0 zeros).toArray) ∧ Below w.heap.size w w' := by
  have B1 : Blk (w.alloc (.cells #[.pointer none] 48)) w.heap.size [.pointer none] := Blk.new w [.pointer none] 48
  have hs1 : (w.alloc (.cells #[.pointer none] 48)).heap.size = w.heap.size + 1 := by simp
  obtain ⟨zs, hzs⟩ : ∃ zs, zs = (pcells 0 0 zeros) := ⟨_, rfl⟩
  have HZ := Lib.hid zp26
  have HZL := Lib.hid (show zs.length = 26 by rw [hzs]; exact pcells_len 0 0 zeros_len)
  have hone : zs.toArray.all (·.oneCell') = true := all_oneCell_toArray (by rw [hzs]; exact pcells_one _ _ _)
  rw [← hzs] at HZ ⊢
  have HZS := Lib.hid hzs
  have B2 := Blk.new (w.alloc (.cells #[.pointer none] 48)) zs 61
  rw [hs1] at B2
  replace B1 := B1.alloc (.cells zs.toArray 61)
  have hw0 : Below w.heap.size w ((w.alloc (.cells #[.pointer none] 48)).alloc (.cells zs.toArray 61)) := ((Below.refl w.heap.size w).alloc (Nat.le_refl _) _).alloc (by simp) _
  have hsz : w.heap.size + 2 ≤ ((w.alloc (.cells #[.pointer none] 48)).alloc (.cells zs.toArray 61)).heap.size := by simp
  generalize hW : (w.alloc (.cells #[.pointer none] 48)).alloc (.cells zs.toArray 61) = W at *
  have HW := Lib.hid hW
  have hu := Try.underlying61
  clear hW hs1 hzs
  have x0 : W.cell? ⟨w.heap.size, 0, none⟩ = some (.pointer none) := B1.cell rfl
  go_enter Try.func84, Try.ntmps84
  go_wp2_with fail
  rw [← HZ.out, HW.out]
  clear HW
  refine (nil_above _ _).mono ?_
  rintro x w1 ⟨rfl, rfl⟩
  have B3 := Blk.new W zs 61
  have T3 := B3.there 0 26 (by rw [HZL.out]; omega)
  have S3 := B3.wholeT (ds := zs) rfl
  have LE3 : Le W (World.setCells (W.alloc (.cells zs.toArray 61)) W.heap.size 0 zs) := below_sets (Nat.le_refl _) _ 0 ((Below.refl W.heap.size W).alloc (Nat.le_refl _) _)
  obtain ⟨g3, hg3⟩ : ∃ z, z = W.heap.size := ⟨_, rfl⟩
  rw [← hg3] at T3 S3 LE3 hsz
  have HG3 := Lib.hid hg3
  clear hg3 B3
  go_wp2_with (first
    | (rw [← HZ.out, ← HG3.out]
       refine wpList_store_mid rfl 61 (.tmp 3) (.tmp 10) rfl g3 0 zs.toArray rfl (by rw [HZS.out]; rfl) (by simpa [HZL.out] using T3) (by simpa [HZL.out] using info_patch) hone ?_
       simp only [Act.put]
       generalize hw3 : World.setCells _ g3 0 zs.toArray.toList = w3
       have S4 : Blk w3 g3 (pcells 0 0 zeros) := by rw [← HZS.out]; exact hw3 ▸ S3
       have LE3' : Le W w3 := hw3 ▸ LE3
       have q3 : w3.cell? ⟨g3, 0, none⟩ = some (.int .u32 0) := S4.cell rfl
       clear hw3 T3 S3 LE3)
    | fail)
  have HL0 := labels_any 0#32 w3
  rw [show has 0#32 8 = false from rfl] at HL0
  refine HL0.mono ?_
  rintro x w4 ⟨rfl, rfl⟩
  have X3 := B1.later LE3'
  have B3 := B2.later LE3'
  have H3 := hw0.trans (LE3'.mono hw0.size)
  have x3 : w3.cell? ⟨w.heap.size, 0, none⟩ = some (.pointer none) := X3.cell rfl
  clear HL0 x0 B1 B2 hw0 LE3' S4 hsz
  go_wp2_with fail
  refine (fields_zero _).mono ?_
  rintro x w5 ⟨A, c, rfl, hb5⟩
  have X5 := X3.later hb5
  have B5 := B3.later hb5
  have H5 := H3.trans (hb5.mono H3.size)
  clear X3 B3 H3 x3 hb5
  go_wp2_with fail
  go_loopw [23] (fun i wr => i = .int .i64 0 ∧ Blk wr w.heap.size [.pointer none] ∧ Blk wr (w.heap.size + 1) zs ∧ Below w.heap.size w wr) (fun i _ => 0)
  case atStart => exact ⟨rfl, X5, B5, H5⟩
  case round =>
    obtain ⟨rfl, X, B, H⟩ := hrel
    clear X5 B5 H5
    have xr : wr.cell? ⟨w.heap.size, 0, none⟩ = some (.pointer none) := X.cell rfl
    go_wp2_with fail
    refine (nil_err _).mono ?_
    rintro x w6 ⟨rfl, rfl⟩
    have T8 := B.there 0 26 (by rw [HZL.out]; omega)
    have FIN := B.wholeT (ds := zs) rfl
    have H9 := below_sets (B := w.heap.size) (b := w.heap.size + 1) (by omega) zs 0 H
    clear X B H xr
    go_wp2_with (first
      | (refine wpList_store_mid rfl 61 (.tmp 2) (.tmp 35) rfl (w.heap.size + 1) 0 zs.toArray rfl (by rw [HZS.out]; rfl) (by simpa [HZL.out] using T8) (by simpa [HZL.out] using info_patch) hone ?_)
      | fail)
    exact bodyPost_ret (v := .agg zs.toArray) (tok_results (q := 2) rfl _ _ (w.heap.size + 1) zs _ rfl FIN hu rfl (by rw [HZL.out]; exact info_patch)) rfl ⟨rfl, H9⟩
end Go.Proofs.Ytgpbglmlakildaa

/- Edits as they are read of no reader; equal edits. -/
namespace Go.Proofs.Ytgpbglmlakildaa
set_option linter.unusedVariables false
set_option linter.unusedSimpArgs false
open Go Go.RowKit OctM BitM

theorem guard_edit : Try.prog.eqGuardType Try.prog.depth 63 = false := by kernel_rfl
theorem fieldsE : Try.prog.underlying 63 = some (.struct (Try.prog.fieldsOf 63)) := by kernel_rfl
theorem pcells_pre (pre cs : List Value) (n m : Nat) (hp : pre.length = n) (hc : cs.length = m) : (pre ++ cs).toArray.extract n (n + m) = cs.toArray := by
  subst hp hc
  apply Array.toList_inj.1
  simp [List.extract_eq_take_drop]
theorem eq_edit (d : Nat) (k id gr m lab k' id' gr' m' lab' : Int) (f g : List V3) (hf : f.length = 8) (hg : g.length = 8) (w : World) :
    (Op.equalIn (d + 5) 63 (.agg (ecells k id gr m lab f).toArray) (.agg (ecells k' id' gr' m' lab' g).toArray)).run Try.prog w = .ok (decide (k = k' ∧ id = id' ∧ gr = gr' ∧ (m = m' ∧ lab = lab' ∧ f = g))) w := by
  have hsz : ∀ w, (sizeOf 61).run Try.prog w = .ok 26 w := fun w => by kernel_rfl
  have hag : ∀ w, (isAgg 61).run Try.prog w = .ok true w := fun w => by kernel_rfl
  rw [run_equalIn_agg w (d + 4) 63 _ _ fieldsE (by kernel_rfl)]
  have e : (Try.prog.fieldsOf 63).toList = [⟨"Kind", 3, 0, false, "", "", 0⟩, ⟨"ID", 3, 1, false, "", "", 8⟩, ⟨"Group", 3, 2, false, "", "", 16⟩, ⟨"Patch", 61, 3, false, "", "", 24⟩] := by kernel_rfl
  rw [e]
  have px : ∀ (a b c x y : Int) (h : List V3), h.length = 8 → (part 61 (ecells a b c x y h).toArray 3).run Try.prog w = .ok (.agg (pcells x y h).toArray) w := fun a b c x y h hh => by
    simp only [part, Sem.run_bind, hag, Result.andThen_ok, hsz, if_true, Sem.run_pure]
    unfold ecells
    rw [pcells_pre _ _ 3 26 rfl (pcells_len x y hh)]
  have p0 : ∀ (a b c x y : Int) (h : List V3), (part 3 (ecells a b c x y h).toArray 0).run Try.prog w = .ok (.int .i64 a) w := fun a b c x y h => by simp [go_sem, part, isAgg, ecells]
  have p1 : ∀ (a b c x y : Int) (h : List V3), (part 3 (ecells a b c x y h).toArray 1).run Try.prog w = .ok (.int .i64 b) w := fun a b c x y h => by simp [go_sem, part, isAgg, ecells]
  have p2 : ∀ (a b c x y : Int) (h : List V3), (part 3 (ecells a b c x y h).toArray 2).run Try.prog w = .ok (.int .i64 c) w := fun a b c x y h => by simp [go_sem, part, isAgg, ecells]
  have ef := eq_patch d m lab m' lab' f g hf hg w
  have q0 : ∀ a b : Int, (Op.equalIn (d + 4) 3 (.int .i64 a) (.int .i64 b)).run Try.prog w = .ok (a == b) w := fun a b => run_equalIn_int w (d + 3) 3 .i64 .i64 a b Try.underlying3
  simp only [Op.eqFields, if_pos (show ("Kind" : String) ≠ "_" by decide), if_pos (show ("ID" : String) ≠ "_" by decide), if_pos (show ("Group" : String) ≠ "_" by decide), if_pos (show ("Patch" : String) ≠ "_" by decide)]
  simp only [Sem.run_bind, Sem.run_ite, Sem.run_pure, px _ _ _ _ _ f hf, px _ _ _ _ _ g hg, p0, p1, p2, q0, ef, Result.andThen_ok]
  by_cases h1 : k = k' <;> by_cases h2 : id = id' <;> by_cases h3 : gr = gr' <;> by_cases h4 : m = m' ∧ lab = lab' ∧ f = g <;> simp [h1, h2, h3, h4]
theorem same_e (k id gr m lab : Int) (f : List V3) (hf : f.length = 8) (w : World) : (Op.equalIn 10000 63 (.agg (ecells k id gr m lab f).toArray) (.agg (ecells k id gr m lab f).toArray)).run Try.prog w = .ok true w := by
  rw [eq_edit 9995 k id gr m lab k id gr m lab f f hf hf w, decide_eq_true (show k = k ∧ id = id ∧ gr = gr ∧ (m = m ∧ lab = lab ∧ f = f) from ⟨rfl, rfl, rfl, rfl, rfl, rfl⟩)]
set_option maxRecDepth 100000 in
theorem nil_aboveE (w : World) (m : Int) : Calls Try.prog 83 #[.pointer none, .int .i64 m] w fun x w' => x = .returned (.int .i64 0) ∧ w = w' := by
  go_enter Try.func83, Try.ntmps83
  go_wp2_with fail
  refine (nil_num _ _).mono ?_
  rintro x w1 ⟨rfl, rfl⟩
  go_wp2_with fail
  refine (nil_fail _ _).mono ?_
  rintro x w1 ⟨rfl, rfl⟩
  go_wp2_with fail
  go_ret
  exact ⟨rfl, rfl⟩
set_option maxRecDepth 100000 in
set_option maxHeartbeats 3200000 in
theorem nil_edit (w : World) : Calls Try.prog 48 #[.pointer none] w fun x w' => x = .returned (.agg (ecells 0 0 0 0 0 zeros).toArray) ∧ Below w.heap.size w w' := by
  have hu := Try.underlying63
  have HZ := Lib.hid ze29
  obtain ⟨zs, hzs⟩ : ∃ zs, zs = ecells 0 0 0 0 0 zeros := ⟨_, rfl⟩
  have HC : Hid (∀ wx : World, Calls Try.prog 42 #[.agg zs.toArray] wx fun e w' => e = .returned (.int .i64 1) ∧ Below wx.heap.size wx w') := Lib.hid (fun wx => by rw [hzs]; exact echeck_any 0 0 0 0 0#32 zeros wx zeros_len)
  have HG1 := Lib.hid (fun wx : World => has_grp 0 wx)
  have HI1 := Lib.hid (fun wx : World => has_idk 0 wx)
  have HP1 := Lib.hid (fun wx : World => has_ptk 0 wx)
  rw [show grp 0 = false from rfl] at HG1
  rw [show idk 0 = false from rfl] at HI1
  rw [show ptk 0 = false from rfl] at HP1
  have HZL := Lib.hid (show zs.length = 29 by rw [hzs]; exact ecells_len _ _ _ _ _ zeros_len)
  have O8 : zs.toArray.all (·.oneCell') = true := all_oneCell_toArray (by rw [hzs]; exact ecells_one _ _ _ _ _ _)
  rw [← hzs] at HZ ⊢
  have HZS := Lib.hid hzs
  have B1 := Blk.new w zs 63
  have hw0 : Below w.heap.size w (w.alloc (.cells zs.toArray 63)) := (Below.refl w.heap.size w).alloc (Nat.le_refl _) _
  have hsz : w.heap.size + 1 ≤ (w.alloc (.cells zs.toArray 63)).heap.size := by simp
  generalize hW : w.alloc (.cells zs.toArray 63) = W at *
  have HW := Lib.hid hW
  clear hW hzs
  go_enter Try.func48, Try.ntmps48
  go_wp2_with fail
  rw [← HZ.out, HW.out]
  clear HW
  refine (nil_aboveE _ _).mono ?_
  rintro x w1 ⟨rfl, rfl⟩
  have B3 := Blk.new W zs 63
  have T3 := B3.there 0 29 (by rw [HZL.out]; omega)
  have S3 := B3.wholeT (ds := zs) rfl
  have LE3 : Le W (World.setCells (W.alloc (.cells zs.toArray 63)) W.heap.size 0 zs) := below_sets (Nat.le_refl _) _ 0 ((Below.refl W.heap.size W).alloc (Nat.le_refl _) _)
  obtain ⟨g3, hg3⟩ : ∃ z, z = W.heap.size := ⟨_, rfl⟩
  rw [← hg3] at T3 S3 LE3 hsz
  have HG3 := Lib.hid hg3
  clear hg3 B3
  go_wp2_with (first
    | (rw [← HZ.out, ← HG3.out]
       refine wpList_store_mid rfl 63 (.tmp 3) (.tmp 6) rfl g3 0 zs.toArray rfl (by rw [HZS.out]; rfl) (by simpa [HZL.out] using T3) (by simpa [HZL.out] using info_edit) O8 ?_
       simp only [Act.put]
       generalize hw3 : World.setCells _ g3 0 zs.toArray.toList = w3
       have S4 : Blk w3 g3 zs := hw3 ▸ S3
       have LE3' : Le W w3 := hw3 ▸ LE3
       have q4 : w3.cell? ⟨g3, 0, none⟩ = some (.int .i64 0) := by
         have S5 := S4
         rw [HZS.out] at S5
         exact S5.cell rfl
       have RG := S4.wholeC
       clear hw3 T3 S3 LE3)
    | fail)
  refine (HG1.out _).mono ?_
  rintro e' w3' ⟨rfl, rfl⟩
  go_wp2_with fail
  refine (HI1.out _).mono ?_
  rintro e' w3' ⟨rfl, rfl⟩
  go_wp2_with fail
  refine (HP1.out _).mono ?_
  rintro e' w3' ⟨rfl, rfl⟩
  go_wp2_with (first
    | (refine wpList_load_mid rfl 63 (.tmp 3) rfl g3 0 rfl zs _ RG hu rfl (by rw [HZL.out]; exact info_edit) ?_)
    | fail)
  refine (HC.out _).mono ?_
  rintro e' w7 ⟨rfl, hb7⟩
  have B7 := (B1.later LE3').later hb7
  have H3 := hw0.trans (LE3'.mono hw0.size)
  have H7 := H3.trans (hb7.mono H3.size)
  clear B1 hw0 hb7 H3 RG S4 q4 LE3'
  go_wp2_with fail
  refine (nil_fail _ _).mono ?_
  rintro e' w8 ⟨rfl, rfl⟩
  go_wp2_with fail
  refine (nil_err _).mono ?_
  rintro e' w9 ⟨rfl, rfl⟩
  have T8 := B7.there 0 29 (by rw [HZL.out]; omega)
  have FIN := B7.wholeT (ds := zs) rfl
  have H9 := below_sets (Nat.le_refl w.heap.size) zs 0 H7
  clear B7 H7
  go_wp2_with (first
    | (refine wpList_store_mid rfl 63 (.tmp 2) (.tmp 33) rfl w.heap.size 0 zs.toArray rfl (by rw [HZS.out]; rfl) (by simpa [HZL.out] using T8) (by simpa [HZL.out] using info_edit) O8 ?_)
    | fail)
  exact bodyPost_ret (v := .agg zs.toArray) (tok_results (q := 2) rfl _ _ w.heap.size zs _ rfl FIN hu rfl (by rw [HZL.out]; exact info_edit)) rfl ⟨rfl, H9⟩
end Go.Proofs.Ytgpbglmlakildaa

/- A region that draws its order, whose first operations turn memory, and whose others wait for them: the first by all their orders, the others walked once. -/
namespace Go.Proofs.Ytgpbglmlakildaa
set_option linter.unusedVariables false
open Go Go.RowKit

/-- The values of the first operations, put. -/
def putsAll : List Oper → List Value → Act → Act
  | o :: l, v :: vs, a => putsAll l vs (a.put o.dst v)
  | _, _, a => a
section
variable {P : Program} {ops : Array Oper} {md : Region.Mode} {Q : Exit → Act → World → Prop}
theorem wpAny_step {fuel : Nat} {listed : Array Bool} {a : Act} {w : World} (r : List Nat) (hr : Region.ready md ops listed = r) (hne : r.isEmpty = false)
    (h : ∀ i ∈ r, wpOp P ops Q i (wpAny P md ops Q fuel (listed.setIfInBounds i true)) a w) : wpAny P md ops Q (fuel + 1) listed a w := by
  subst hr
  exact ⟨fun h0 => absurd hne (by rw [h0]; simp), h⟩
theorem wpOp_move {i : Nat} {a : Act} {w : World} {K : Act → World → Prop} (o : Oper) (ho : ops[i]? = some o) (x : Operand) (hx : o.op = .move x) (hw : Region.wanted o (yielded ops a.tmps) = true) (h : K (a.put o.dst (a.eval x)) w) : wpOp P ops Q i K a w := by
  unfold wpOp
  simp only [ho, hw, if_true]
  left
  unfold Oper.wp execOp
  simp only [hx, Sem.run_pure, Oper.upon]
  exact h
theorem wpOp_call {i : Nat} {a : Act} {w : World} {K : Act → World → Prop} (o : Oper) (ho : ops[i]? = some o) (f : FuncId) (args : Array Value) (hx : (execOp a.eval o).run P w = .ok (.enter f args) w) (hw : Region.wanted o (yielded ops a.tmps) = true)
    (h : Calls P f args w fun e w' => ∃ v, e = .returned v ∧ K (a.put o.dst v) w') : wpOp P ops Q i K a w := by
  unfold wpOp
  simp only [ho, hw, if_true]
  left
  unfold Oper.wp
  rw [hx]
  simp only [Oper.upon]
  exact h.mono fun e w' ⟨v, he, hk⟩ => by subst he; exact hk
end
theorem wpAny_rest {P : Program} {Q : Exit → Act → World → Prop} {l : List Oper} {a : Act} {w : World} (k n : Nat) (listed : Array Bool) (hs : Region.noSelect l.toArray = true) (hf : fedB l [] n = true)
    (hB : Region.lexFrom .any l.toArray (l.drop k).length k listed = true) (hn : a.tmps.size = n)
    (h : wpG P l.toArray (openOf []) w (fun a' w' => Q .normal a' w') (l.drop k) a (fun _ => True)) : wpAny P .any l.toArray Q (l.drop k).length listed a w := by
  obtain ⟨hF, hd⟩ := fedB_fed (g := []) (n := n) hf
  have hI : Inv l.toArray (openOf []) w listed a w := ⟨Le.refl w, fun k o d R _ _ _ hG => by simp [openOf] at hG⟩
  refine wpAny_of_G (Qn := fun a' w' => Q .normal a' w') (w0 := w) hF (fun _ _ h => h) _ _ _ _ hI ?_
  exact wpAnyG_lex hF hs n hd (l.drop k) k listed a (fun _ => True) (fun j => by rw [List.getElem?_toArray, List.getElem?_drop]) hB hn ⟨w, hI⟩ (fun _ _ => trivial) h
/-- The first k operations in all their orders (head); the others once (tail). -/
theorem wp_region_head {P : Program} {id : Nat} {Q : Exit → Act → World → Prop} {a : Act} {w : World} {l : List Oper} (k n : Nat) (listed : Array Bool) (vs : List Value) (S : World → Prop) (hm : P.follows .mixedOrders = true)
    (hs : Region.noSelect l.toArray = true) (hf : fedB l [] n = true) (hB : Region.lexFrom .any l.toArray (l.drop k).length k listed = true) (hn : (putsAll l vs a).tmps.size = n)
    (head : (∀ w', S w' → wpAny P .any l.toArray Q (l.drop k).length listed (putsAll l vs a) w') → wpAny P .any l.toArray Q l.length (Array.replicate l.length false) a { w with drawn := w.drawn + 1 })
    (tail : ∀ w', S w' → wpG P l.toArray (openOf []) w' (fun a' w' => Q .normal a' w') (l.drop k) (putsAll l vs a) (fun _ => True)) : (Code.region id l.toArray true).wp P Q a w := by
  refine wp_region_any hm ?_
  simpa using head fun w' hS => wpAny_rest k n listed hs hf hB hn (tail w' hS)
end Go.Proofs.Ytgpbglmlakildaa

/- EditReads: the walk. -/
namespace Go.Proofs.Ytgpbglmlakildaa
set_option linter.unusedVariables false
set_option linter.unusedSimpArgs false
open Go Go.RowKit OctM

set_option maxRecDepth 100000 in
set_option maxHeartbeats 6400000 in
theorem walk_edreads (A : Option Addr) (n c : Nat) (l : List UInt8) (w : World) (hn : l.length = n) (hs : Sees w w.heap.size A (bvs l)) :
    Calls Try.prog 10 #[.slice A n c] w fun e w' => e = .returned (.bool true) ∧ Below w.heap.size w w' := by
  have HAW := Lib.hid (fun (wx : World) => edit_awake wx)
  by_cases h5 : n ≤ 1000
  · have d3 : decide ((1000 : Int) < (n : Int)) = false := by simp; omega
    have HN := Lib.hid (rd_new A n c l w hn hs (by omega))
    have HNL := Lib.hid hn
    go_enter Try.func10, Try.ntmps10
    go_wp2_with fail
    refine HN.out.mono ?_
    rintro e w1 ⟨gr, rfl, r1, b1⟩
    obtain ⟨sl, hsl⟩ : ∃ sl, sl = str l := ⟨_, rfl⟩
    have hc1 := str_conv w1 w1.heap.size A n c l sl HNL.out ((hs.below b1).more b1.size) hsl
    have hgr := r1.block
    have HSL := Lib.hid hsl
    clear hn hsl
    go_wp2_with fail
    have T0 : Same2 w (w1.alloc (.cells #[.string sl, .int .i64 0] 52)) gr w1.heap.size l 0 0 := by
      refine ⟨⟨r1.later ((Below.refl _ _).alloc (Nat.le_refl _) _), ?_, hgr.2, b1.alloc b1.size _⟩, Nat.zero_le _, by rw [HNL.out]; omega⟩
      have h := own_lit w1 w.heap.size 52 #[.string sl, .int .i64 0] b1.size (by simp [maxLen])
      rw [HSL.out] at h ⊢
      exact h
    generalize hgm : w1.heap.size = gm at T0 ⊢
    clear hc1 r1 b1 hgr hgm HSL HN
    go_loopw [5] (fun i wr => ∃ (k a : Nat) (e : Int), k ≤ 4 ∧ i = .int .i64 k ∧ Same2 w wr gr gm l a e) (fun i _ => 4 - (intOf i).toNat)
    case atStart => exact ⟨0, 0, 0, by omega, rfl, T0⟩
    case round =>
      obtain ⟨k, a, e, hk, rfl, T, ha, hm⟩ := hrel
      have HT := Lib.hid T
      clear T0
      by_cases hlt : k < 4
      · have q2 : (k : Int) < 4 := by omega
        have ha2 := editOut_at l a e ha
        have H1 := Lib.hid (fun wx (T : Two w wx gr gm l a e (l.drop a) e) => (rd_edit _ gr l a e wx T.1 ha hm).mono fun x w' h => (show x = .returned (.agg (ec6 (editOut l a e).1).toArray) ∧ Two w w' gr gm l (editOut l a e).2.1 (editOut l a e).2.2 (l.drop a) e from ⟨h.1, T.first h.2.1 h.2.2⟩))
        have H2 := Lib.hid (fun wx (T : Two w wx gr gm l (editOut l a e).2.1 (editOut l a e).2.2 (l.drop a) e) => (rr_edit _ gm l a e wx T.2.1 ha hm).mono fun x w' h => (show x = .returned (.agg (ec6 (editOut l a e).1).toArray) ∧ Two w w' gr gm l (editOut l a e).2.1 (editOut l a e).2.2 (l.drop (editOut l a e).2.1) (editOut l a e).2.2 from ⟨h.1, T.second h.2.1 h.2.2⟩))
        obtain ⟨cs, hcs⟩ : ∃ cs, cs = ec6 (editOut l a e).1 := ⟨_, rfl⟩
        have HSC : Hid (∀ wx : World, (Op.equalIn 10000 63 (.agg cs.toArray) (.agg cs.toArray)).run Try.prog wx = .ok true wx) := Lib.hid (fun wx => by rw [hcs]; exact same_e _ _ _ _ _ _ (editOut_len l a e) wx)
        rw [← hcs] at H1 H2
        clear hcs
        obtain ⟨⟨q0, a2, e2⟩, hq⟩ : ∃ q, q = editOut l a e := ⟨_, rfl⟩
        rw [← hq] at H1 H2 ha2
        simp only at H1 H2 ha2
        clear hq T d3 hs
        go_wp2_with fail
        refine wp_region_head 4 50 #[true, true, true, true, false, false, false, false, false, false, false, false, false, false, false, false, false, false, false, false, false, false, false, false] [.pointer (some ⟨gr, 0, none⟩), .agg cs.toArray, .pointer (some ⟨gm, 0, none⟩), .agg cs.toArray] (fun w' => Two w w' gr gm l a2 e2 (l.drop a2) e2) (by kernel_rfl) (by kernel_rfl) (by kernel_rfl) (by kernel_rfl) (by rfl) ?_ ?_
        · intro TAIL
          have T0 := HT.out.later ((Below.refl _ _).drew)
          refine wpAny_step (fuel := 23) [0, 2] (by kernel_rfl) rfl (fun i hi => ?_)
          simp only [List.mem_cons, List.not_mem_nil, or_false] at hi
          rcases hi with rfl | rfl
          · refine wpOp_move _ rfl (.tmp 3) rfl (by rfl) ?_
            simp only [Act.put, List.setIfInBounds_toArray, List.set_cons_zero, List.set_cons_succ]
            refine wpAny_step (fuel := 22) [1, 2] (by kernel_rfl) rfl (fun i hi => ?_)
            simp only [List.mem_cons, List.not_mem_nil, or_false] at hi
            rcases hi with rfl | rfl
            · refine wpOp_call _ rfl 48 #[.pointer (some ⟨gr, 0, none⟩)] (by simp [go_sem]) (by rfl) ((H1.out _ T0).mono ?_)
              rintro e' w1 ⟨rfl, T1⟩
              refine ⟨_, rfl, ?_⟩
              simp only [Act.put, List.setIfInBounds_toArray, List.set_cons_zero, List.set_cons_succ]
              refine wpAny_step (fuel := 21) [2] (by kernel_rfl) rfl (fun i hi => ?_)
              simp only [List.mem_cons, List.not_mem_nil, or_false] at hi
              subst hi
              refine wpOp_move _ rfl (.tmp 4) rfl (by rfl) ?_
              simp only [Act.put, List.setIfInBounds_toArray, List.set_cons_zero, List.set_cons_succ]
              refine wpAny_step (fuel := 20) [3] (by kernel_rfl) rfl (fun i hi => ?_)
              simp only [List.mem_cons, List.not_mem_nil, or_false] at hi
              subst hi
              refine wpOp_call _ rfl 49 #[.pointer (some ⟨gm, 0, none⟩)] (by simp [go_sem]) (by rfl) ((H2.out _ T1).mono ?_)
              rintro e' w2 ⟨rfl, T2⟩
              refine ⟨_, rfl, ?_⟩
              simp only [Act.put, List.setIfInBounds_toArray, List.set_cons_zero, List.set_cons_succ]
              exact TAIL _ T2
            · refine wpOp_move _ rfl (.tmp 4) rfl (by rfl) ?_
              simp only [Act.put, List.setIfInBounds_toArray, List.set_cons_zero, List.set_cons_succ]
              refine wpAny_step (fuel := 21) [1] (by kernel_rfl) rfl (fun i hi => ?_)
              simp only [List.mem_cons, List.not_mem_nil, or_false] at hi
              subst hi
              refine wpOp_call _ rfl 48 #[.pointer (some ⟨gr, 0, none⟩)] (by simp [go_sem]) (by rfl) ((H1.out _ T0).mono ?_)
              rintro e' w1 ⟨rfl, T1⟩
              refine ⟨_, rfl, ?_⟩
              simp only [Act.put, List.setIfInBounds_toArray, List.set_cons_zero, List.set_cons_succ]
              refine wpAny_step (fuel := 20) [3] (by kernel_rfl) rfl (fun i hi => ?_)
              simp only [List.mem_cons, List.not_mem_nil, or_false] at hi
              subst hi
              refine wpOp_call _ rfl 49 #[.pointer (some ⟨gm, 0, none⟩)] (by simp [go_sem]) (by rfl) ((H2.out _ T1).mono ?_)
              rintro e' w2 ⟨rfl, T2⟩
              refine ⟨_, rfl, ?_⟩
              simp only [Act.put, List.setIfInBounds_toArray, List.set_cons_zero, List.set_cons_succ]
              exact TAIL _ T2
          · refine wpOp_move _ rfl (.tmp 4) rfl (by rfl) ?_
            simp only [Act.put, List.setIfInBounds_toArray, List.set_cons_zero, List.set_cons_succ]
            refine wpAny_step (fuel := 22) [0] (by kernel_rfl) rfl (fun i hi => ?_)
            simp only [List.mem_cons, List.not_mem_nil, or_false] at hi
            subst hi
            refine wpOp_move _ rfl (.tmp 3) rfl (by rfl) ?_
            simp only [Act.put, List.setIfInBounds_toArray, List.set_cons_zero, List.set_cons_succ]
            refine wpAny_step (fuel := 21) [1] (by kernel_rfl) rfl (fun i hi => ?_)
            simp only [List.mem_cons, List.not_mem_nil, or_false] at hi
            subst hi
            refine wpOp_call _ rfl 48 #[.pointer (some ⟨gr, 0, none⟩)] (by simp [go_sem]) (by rfl) ((H1.out _ T0).mono ?_)
            rintro e' w1 ⟨rfl, T1⟩
            refine ⟨_, rfl, ?_⟩
            simp only [Act.put, List.setIfInBounds_toArray, List.set_cons_zero, List.set_cons_succ]
            refine wpAny_step (fuel := 20) [3] (by kernel_rfl) rfl (fun i hi => ?_)
            simp only [List.mem_cons, List.not_mem_nil, or_false] at hi
            subst hi
            refine wpOp_call _ rfl 49 #[.pointer (some ⟨gm, 0, none⟩)] (by simp [go_sem]) (by rfl) ((H2.out _ T1).mono ?_)
            rintro e' w2 ⟨rfl, T2⟩
            refine ⟨_, rfl, ?_⟩
            simp only [Act.put, List.setIfInBounds_toArray, List.set_cons_zero, List.set_cons_succ]
            exact TAIL _ T2
        · intro w5 T5
          obtain ⟨rest, hrest⟩ : ∃ r, r = l.length - a2 := ⟨_, rfl⟩
          obtain ⟨sr, hsr⟩ : ∃ sr, sr = str (l.drop a2) := ⟨_, rfl⟩
          have zr : sr.size = rest := by rw [hsr, str_size, List.length_drop, hrest]
          have hr2 : rest ≤ 2000 := by omega
          have HLE := Lib.hid (fun wx (T : Two w wx gr gm l a2 e2 (l.drop a2) e2) => two_left T ha2 hm rest hrest)
          have HER := Lib.hid (fun wx (T : Two w wx gr gm l a2 e2 (l.drop a2) e2) => two_err T)
          have hm0 : ∀ k : LW w5, k.val.cell? ⟨gm, 0, none⟩ = some (.string sr) := fun k => by rw [hsr]; exact (two_cells (T5.later k.le)).1
          have hm1 : ∀ k : LW w5, k.val.cell? ⟨gm, 1, none⟩ = some (.int .i64 e2) := fun k => (two_cells (T5.later k.le)).2
          clear hrest hsr
          simp only [putsAll, List.drop_succ_cons, List.drop_zero]
          simp only [Act.put, List.setIfInBounds_toArray, List.set_cons_zero, List.set_cons_succ]
          refine wpG_run (by rfl) (by rfl) (.bool false) (fun w1 hl => exec_neq 63 _ (.tmp 21) (.tmp 23) rfl _ _ rfl rfl guard_edit true (HSC.out w1)) ?_
          simp only [Act.put, List.setIfInBounds_toArray, List.set_cons_zero, List.set_cons_succ]
          iterate 2 (refine wpG_quiet (by rfl) (by rfl) (by rfl) (fun K hK => ?_); go_big_quiet_op; refine hK _ ?_; clear hK K)
          refine wpG_call (by rfl) (by rfl) 38 #[.pointer (some ⟨gr, 0, none⟩)] (.int .i64 e2) (by intro _; simp [go_sem]) (by kernel_rfl) (fun w1 hl => HER.out w1 (T5.later hl.1)) ?_
          simp only [Act.put, List.setIfInBounds_toArray, List.set_cons_zero, List.set_cons_succ]
          iterate 8 (refine wpG_quiet (by rfl) (by rfl) (by rfl) (fun K hK => ?_); go_big_quiet_op; refine hK _ ?_; clear hK K)
          refine wpG_call (by rfl) (by rfl) 39 #[.pointer (some ⟨gr, 0, none⟩)] (.int .i64 rest) (by intro _; simp [go_sem]) (by kernel_rfl) (fun w1 hl => HLE.out w1 (T5.later hl.1)) ?_
          simp only [Act.put, List.setIfInBounds_toArray, List.set_cons_zero, List.set_cons_succ]
          iterate 7 (refine wpG_quiet (by rfl) (by rfl) (by rfl) (fun K hK => ?_); go_big_quiet_op; refine hK _ ?_; clear hK K)
          refine wpG_nil (fun w6 hl6 _ => ?_)
          have T6 := T5.later hl6
          go_wp2_with fail
          go_roundw
          case rel => exact ⟨k + 1, a2, e2, by omega, by go_num, T6, ha2, hm⟩
          case measure => simp [intOf]; omega
      · obtain rfl : k = 4 := by omega
        clear d3 hs
        go_wp2_with fail
        refine (nil_edit _).mono ?_
        rintro e' w2 ⟨rfl, b2⟩
        have T2 := HT.out.later b2
        clear T HT b2
        go_wp2_with (first
          | (refine wpList_exec (by rfl) (.bool true) (exec_eql 63 _ (.tmp 44) (.tmp 45) rfl (ecells 0 0 0 0 0 zeros).toArray (ecells 0 0 0 0 0 zeros).toArray (by rfl) (by rfl) guard_edit true (same_e 0 0 0 0 0 zeros zeros_len _)) ?_)
          | fail)
        refine (HAW.out _).mono ?_
        rintro e' w3 ⟨rfl, b3⟩
        have T3 := T2.later b3
        go_wp2_with fail
        go_ret
        exact ⟨rfl, T3.2.2.2⟩
  · have d3 : decide ((1000 : Int) < (n : Int)) = true := by simp; omega
    clear hs hn
    go_enter Try.func10, Try.ntmps10
    go_wp2_with fail
    refine (HAW.out _).mono ?_
    rintro e' w3 ⟨rfl, b3⟩
    go_wp2_with fail
    go_ret
    exact ⟨rfl, b3⟩
end Go.Proofs.Ytgpbglmlakildaa
