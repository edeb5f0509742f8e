/- Cards as they are read of bytes: the program's: the walk. -/
import Derived.Test.YtgpbglmlakildaaE10
import Derived.Test.YtgpbglmlakildaaE11
import Derived.Test.YtgpbglmlakildaaE16
import Derived.Test.YtgpbglmlakildaaE3
import Derived.Test.YtgpbglmlakildaaE17
import Derived.Test.YtgpbglmlakildaaE15
import Derived.Test.YtgpbglmlakildaaE12
import Derived.Test.YtgpbglmlakildaaE7
namespace Go.Proofs.Ytgpbglmlakildaa
set_option linter.unusedVariables false
open Go Go.RowKit OctM BitM

theorem fld_nat {x : BitVec 32} {k : Nat} {L : List Int} (hL : L = flds x) (hk : k < L.length) : ∃ j : Nat, L[k] = (j : Int) ∧ j < 8 := by
  obtain ⟨h0, h8, _⟩ := (mem_flds x L[k]).1 (by rw [← hL]; exact List.getElem_mem hk)
  obtain ⟨j, hj⟩ := Int.eq_ofNat_of_zero_le h0
  exact ⟨j, hj, by omega⟩

end Go.Proofs.Ytgpbglmlakildaa

/- Values, cards and patches as they are read of no reader. -/
namespace Go.Proofs.Ytgpbglmlakildaa
set_option linter.unusedVariables false
open Go Go.RowKit OctM BitM

def relB (B : Nat) (cs : List Value) : Rel where
  rel x w := ∃ g, x = .pointer (some ⟨g, 0, none⟩) ∧ B ≤ g ∧ Blk w g cs
  mono := fun x w w' h ⟨g, e, hg, hr⟩ => ⟨g, e, hg, hr.later h⟩
  real := fun w ⟨g, e, _⟩ => by cases e
theorem fields_zero (w : World) : Calls Try.prog 111 #[.int .u32 0] w fun e w' => ∃ A c, e = .returned (.slice A 0 c) ∧ Below w.heap.size w w' := by
  have h := fields_any 0#32 w
  have hf : flds 0#32 = [] := by decide +kernel
  rw [hf] at h
  exact h.mono fun e w' ⟨A, c, he, _, hb⟩ => ⟨A, c, he, hb⟩

set_option maxRecDepth 100000 in
set_option maxHeartbeats 1600000 in
theorem nil_value (w : World) : Calls Try.prog 97 #[.pointer none] w fun x w' => x = .returned (.agg (vcells zv).toArray) ∧ Below w.heap.size w w' := by
  have hu := Try.underlying27
  have B2 := Blk.new w (vcells zv) 27
  have hb := (Below.refl w.heap.size w).alloc (Nat.le_refl _) (.cells (vcells zv).toArray 27)
  go_enter Try.func97, Try.ntmps97
  go_wp2_with fail
  refine (nil_num _ _).mono ?_
  rintro x w1 ⟨rfl, h1⟩
  generalize hw0 : w.alloc (.cells #[Value.int .i64 0, .int .i64 0, .string { data := #[] }] 27) = w0 at h1
  have B2' : Blk w0 w.heap.size (vcells zv) := hw0 ▸ B2
  have hb0 : Below w.heap.size w w0 := hw0 ▸ hb
  clear B2 hb hw0
  subst h1
  have B3 := Blk.new w0 (vcells zv) 27
  have T3 := B3.there 0 3 (Nat.le_refl _)
  have S3 := B3.wholeT (ds := vcells zv) rfl
  have LE3 : Le w0 (World.setCells (w0.alloc (.cells (vcells zv).toArray 27)) w0.heap.size 0 (vcells zv)) := below_sets (Nat.le_refl _) _ 0 ((Below.refl w0.heap.size w0).alloc (Nat.le_refl _) _)
  have O3 : (vcells zv).toArray.all (·.oneCell') = true := vcells_all _
  have hsz := hb0.size
  have hb2 := B2'.lt
  obtain ⟨g3, hg3⟩ : ∃ z, z = w0.heap.size := ⟨_, rfl⟩
  rw [← hg3] at T3 S3 LE3 hsz hb2
  have HG3 := Lib.hid hg3
  clear hg3 B3
  go_wp2_with (first
    | (rw [← HG3.out]
       refine wpList_store_mid rfl 27 (.tmp 3) (.tmp 6) rfl g3 0 (vcells zv).toArray rfl rfl T3 info_val O3 ?_
       simp only [Act.put]
       generalize hw3 : World.setCells _ g3 0 (vcells zv).toArray.toList = w3
       have S4 : Blk w3 g3 (vcells zv) := hw3 ▸ S3
       have LE3' : Le w0 w3 := hw3 ▸ LE3
       have q1 : w3.cell? ⟨g3, 0, none⟩ = some (.int .i64 0) := S4.cell rfl
       clear hw3 T3 S3 LE3)
    | fail)
  refine (nil_err _).mono ?_
  rintro x w4 ⟨rfl, rfl⟩
  replace B2' := B2'.later LE3'
  replace hb0 := hb0.trans (LE3'.mono hb0.size)
  have T8 := B2'.there 0 3 (Nat.le_refl _)
  have FIN := B2'.wholeT (ds := vcells zv) rfl
  have H9 := below_sets (Nat.le_refl w.heap.size) (vcells zv) 0 hb0
  clear q1 S4
  go_wp2_with (first
    | (refine wpList_store_mid rfl 27 (.tmp 2) (.tmp 22) rfl w.heap.size 0 (vcells zv).toArray rfl rfl T8 info_val O3 ?_)
    | fail)
  exact bodyPost_ret (v := .agg (vcells zv).toArray) (tok_results (q := 2) rfl _ _ w.heap.size _ _ rfl FIN hu rfl info_val) rfl ⟨rfl, H9⟩
set_option maxRecDepth 100000 in
theorem nil_above (w : World) (m : Int) : Calls Try.prog 109 #[.pointer none, .int .i64 m] w fun x w' => x = .returned (.int .i64 0) ∧ w = w' := by
  go_enter Try.func109, Try.ntmps109
  go_wp2_with fail
  refine (nil_num _ _).mono ?_
  rintro x w1 ⟨rfl, rfl⟩
  go_wp2_with fail
  refine (nil_fail _ _).mono ?_
  rintro x w1 ⟨rfl, rfl⟩
  go_wp2_with fail
  go_ret
  exact ⟨rfl, rfl⟩
set_option maxRecDepth 100000 in
set_option maxHeartbeats 3200000 in
theorem nil_patch (w : World) : Calls Try.prog 84 #[.pointer none] w fun x w' => x = .returned (.agg (pcells 0 0 zeros).toArray) ∧ Below w.heap.size w w' := by
  have B1 : Blk (w.alloc (.cells #[.pointer none] 48)) w.heap.size [.pointer none] := Blk.new w [.pointer none] 48
  have hs1 : (w.alloc (.cells #[.pointer none] 48)).heap.size = w.heap.size + 1 := by simp
  obtain ⟨zs, hzs⟩ : ∃ zs, zs = (pcells 0 0 zeros) := ⟨_, rfl⟩
  have HZ := Lib.hid zp26
  have HZL := Lib.hid (show zs.length = 26 by rw [hzs]; exact pcells_len 0 0 zeros_len)
  have hone : zs.toArray.all (·.oneCell') = true := all_oneCell_toArray (by rw [hzs]; exact pcells_one _ _ _)
  rw [← hzs] at HZ ⊢
  have HZS := Lib.hid hzs
  have B2 := Blk.new (w.alloc (.cells #[.pointer none] 48)) zs 61
  rw [hs1] at B2
  replace B1 := B1.alloc (.cells zs.toArray 61)
  have hw0 : Below w.heap.size w ((w.alloc (.cells #[.pointer none] 48)).alloc (.cells zs.toArray 61)) := ((Below.refl w.heap.size w).alloc (Nat.le_refl _) _).alloc (by simp) _
  have hsz : w.heap.size + 2 ≤ ((w.alloc (.cells #[.pointer none] 48)).alloc (.cells zs.toArray 61)).heap.size := by simp
  generalize hW : (w.alloc (.cells #[.pointer none] 48)).alloc (.cells zs.toArray 61) = W at *
  have HW := Lib.hid hW
  have hu := Try.underlying61
  clear hW hs1 hzs
  have x0 : W.cell? ⟨w.heap.size, 0, none⟩ = some (.pointer none) := B1.cell rfl
  go_enter Try.func84, Try.ntmps84
  go_wp2_with fail
  rw [← HZ.out, HW.out]
  clear HW
  refine (nil_above _ _).mono ?_
  rintro x w1 ⟨rfl, rfl⟩
  have B3 := Blk.new W zs 61
  have T3 := B3.there 0 26 (by rw [HZL.out]; omega)
  have S3 := B3.wholeT (ds := zs) rfl
  have LE3 : Le W (World.setCells (W.alloc (.cells zs.toArray 61)) W.heap.size 0 zs) := below_sets (Nat.le_refl _) _ 0 ((Below.refl W.heap.size W).alloc (Nat.le_refl _) _)
  obtain ⟨g3, hg3⟩ : ∃ z, z = W.heap.size := ⟨_, rfl⟩
  rw [← hg3] at T3 S3 LE3 hsz
  have HG3 := Lib.hid hg3
  clear hg3 B3
  go_wp2_with (first
    | (rw [← HZ.out, ← HG3.out]
       refine wpList_store_mid rfl 61 (.tmp 3) (.tmp 10) rfl g3 0 zs.toArray rfl (by rw [HZS.out]; rfl) (by simpa [HZL.out] using T3) (by simpa [HZL.out] using info_patch) hone ?_
       simp only [Act.put]
       generalize hw3 : World.setCells _ g3 0 zs.toArray.toList = w3
       have S4 : Blk w3 g3 (pcells 0 0 zeros) := by rw [← HZS.out]; exact hw3 ▸ S3
       have LE3' : Le W w3 := hw3 ▸ LE3
       have q3 : w3.cell? ⟨g3, 0, none⟩ = some (.int .u32 0) := S4.cell rfl
       clear hw3 T3 S3 LE3)
    | fail)
  have HL0 := labels_any 0#32 w3
  rw [show has 0#32 8 = false from rfl] at HL0
  refine HL0.mono ?_
  rintro x w4 ⟨rfl, rfl⟩
  have X3 := B1.later LE3'
  have B3 := B2.later LE3'
  have H3 := hw0.trans (LE3'.mono hw0.size)
  have x3 : w3.cell? ⟨w.heap.size, 0, none⟩ = some (.pointer none) := X3.cell rfl
  clear HL0 x0 B1 B2 hw0 LE3' S4 hsz
  go_wp2_with fail
  refine (fields_zero _).mono ?_
  rintro x w5 ⟨A, c, rfl, hb5⟩
  have X5 := X3.later hb5
  have B5 := B3.later hb5
  have H5 := H3.trans (hb5.mono H3.size)
  clear X3 B3 H3 x3 hb5
  go_wp2_with fail
  go_loopw [23] (fun i wr => i = .int .i64 0 ∧ Blk wr w.heap.size [.pointer none] ∧ Blk wr (w.heap.size + 1) zs ∧ Below w.heap.size w wr) (fun i _ => 0)
  case atStart => exact ⟨rfl, X5, B5, H5⟩
  case round =>
    obtain ⟨rfl, X, B, H⟩ := hrel
    clear X5 B5 H5
    have xr : wr.cell? ⟨w.heap.size, 0, none⟩ = some (.pointer none) := X.cell rfl
    go_wp2_with fail
    refine (nil_err _).mono ?_
    rintro x w6 ⟨rfl, rfl⟩
    have T8 := B.there 0 26 (by rw [HZL.out]; omega)
    have FIN := B.wholeT (ds := zs) rfl
    have H9 := below_sets (B := w.heap.size) (b := w.heap.size + 1) (by omega) zs 0 H
    clear X B H xr
    go_wp2_with (first
      | (refine wpList_store_mid rfl 61 (.tmp 2) (.tmp 35) rfl (w.heap.size + 1) 0 zs.toArray rfl (by rw [HZS.out]; rfl) (by simpa [HZL.out] using T8) (by simpa [HZL.out] using info_patch) hone ?_)
      | fail)
    exact bodyPost_ret (v := .agg zs.toArray) (tok_results (q := 2) rfl _ _ (w.heap.size + 1) zs _ rfl FIN hu rfl (by rw [HZL.out]; exact info_patch)) rfl ⟨rfl, H9⟩
end Go.Proofs.Ytgpbglmlakildaa

/- Edits as they are read of no reader; equal edits. -/
namespace Go.Proofs.Ytgpbglmlakildaa
set_option linter.unusedVariables false
set_option linter.unusedSimpArgs false
open Go Go.RowKit OctM BitM

theorem guard_edit : Try.prog.eqGuardType Try.prog.depth 63 = false := by kernel_rfl
theorem fieldsE : Try.prog.underlying 63 = some (.struct (Try.prog.fieldsOf 63)) := by kernel_rfl
theorem pcells_pre (pre cs : List Value) (n m : Nat) (hp : pre.length = n) (hc : cs.length = m) : (pre ++ cs).toArray.extract n (n + m) = cs.toArray := by
  subst hp hc
  apply Array.toList_inj.1
  simp [List.extract_eq_take_drop]
theorem eq_edit (d : Nat) (k id gr m lab k' id' gr' m' lab' : Int) (f g : List V3) (hf : f.length = 8) (hg : g.length = 8) (w : World) :
    (Op.equalIn (d + 5) 63 (.agg (ecells k id gr m lab f).toArray) (.agg (ecells k' id' gr' m' lab' g).toArray)).run Try.prog w = .ok (decide (k = k' ∧ id = id' ∧ gr = gr' ∧ (m = m' ∧ lab = lab' ∧ f = g))) w := by
  have hsz : ∀ w, (sizeOf 61).run Try.prog w = .ok 26 w := fun w => by kernel_rfl
  have hag : ∀ w, (isAgg 61).run Try.prog w = .ok true w := fun w => by kernel_rfl
  rw [run_equalIn_agg w (d + 4) 63 _ _ fieldsE (by kernel_rfl)]
  have e : (Try.prog.fieldsOf 63).toList = [⟨"Kind", 3, 0, false, "", "", 0⟩, ⟨"ID", 3, 1, false, "", "", 8⟩, ⟨"Group", 3, 2, false, "", "", 16⟩, ⟨"Patch", 61, 3, false, "", "", 24⟩] := by kernel_rfl
  rw [e]
  have px : ∀ (a b c x y : Int) (h : List V3), h.length = 8 → (part 61 (ecells a b c x y h).toArray 3).run Try.prog w = .ok (.agg (pcells x y h).toArray) w := fun a b c x y h hh => by
    simp only [part, Sem.run_bind, hag, Result.andThen_ok, hsz, if_true, Sem.run_pure]
    unfold ecells
    rw [pcells_pre _ _ 3 26 rfl (pcells_len x y hh)]
  have p0 : ∀ (a b c x y : Int) (h : List V3), (part 3 (ecells a b c x y h).toArray 0).run Try.prog w = .ok (.int .i64 a) w := fun a b c x y h => by simp [go_sem, part, isAgg, ecells]
  have p1 : ∀ (a b c x y : Int) (h : List V3), (part 3 (ecells a b c x y h).toArray 1).run Try.prog w = .ok (.int .i64 b) w := fun a b c x y h => by simp [go_sem, part, isAgg, ecells]
  have p2 : ∀ (a b c x y : Int) (h : List V3), (part 3 (ecells a b c x y h).toArray 2).run Try.prog w = .ok (.int .i64 c) w := fun a b c x y h => by simp [go_sem, part, isAgg, ecells]
  have ef := eq_patch d m lab m' lab' f g hf hg w
  have q0 : ∀ a b : Int, (Op.equalIn (d + 4) 3 (.int .i64 a) (.int .i64 b)).run Try.prog w = .ok (a == b) w := fun a b => run_equalIn_int w (d + 3) 3 .i64 .i64 a b Try.underlying3
  simp only [Op.eqFields, if_pos (show ("Kind" : String) ≠ "_" by decide), if_pos (show ("ID" : String) ≠ "_" by decide), if_pos (show ("Group" : String) ≠ "_" by decide), if_pos (show ("Patch" : String) ≠ "_" by decide)]
  simp only [Sem.run_bind, Sem.run_ite, Sem.run_pure, px _ _ _ _ _ f hf, px _ _ _ _ _ g hg, p0, p1, p2, q0, ef, Result.andThen_ok]
  by_cases h1 : k = k' <;> by_cases h2 : id = id' <;> by_cases h3 : gr = gr' <;> by_cases h4 : m = m' ∧ lab = lab' ∧ f = g <;> simp [h1, h2, h3, h4]
theorem same_e (k id gr m lab : Int) (f : List V3) (hf : f.length = 8) (w : World) : (Op.equalIn 10000 63 (.agg (ecells k id gr m lab f).toArray) (.agg (ecells k id gr m lab f).toArray)).run Try.prog w = .ok true w := by
  rw [eq_edit 9995 k id gr m lab k id gr m lab f f hf hf w, decide_eq_true (show k = k ∧ id = id ∧ gr = gr ∧ (m = m ∧ lab = lab ∧ f = f) from ⟨rfl, rfl, rfl, rfl, rfl, rfl⟩)]
set_option maxRecDepth 100000 in
theorem nil_aboveE (w : World) (m : Int) : Calls Try.prog 83 #[.pointer none, .int .i64 m] w fun x w' => x = .returned (.int .i64 0) ∧ w = w' := by
  go_enter Try.func83, Try.ntmps83
  go_wp2_with fail
  refine (nil_num _ _).mono ?_
  rintro x w1 ⟨rfl, rfl⟩
  go_wp2_with fail
  refine (nil_fail _ _).mono ?_
  rintro x w1 ⟨rfl, rfl⟩
  go_wp2_with fail
  go_ret
  exact ⟨rfl, rfl⟩
set_option maxRecDepth 100000 in
set_option maxHeartbeats 3200000 in
theorem nil_edit (w : World) : Calls Try.prog 48 #[.pointer none] w fun x w' => x = .returned (.agg (ecells 0 0 0 0 0 zeros).toArray) ∧ Below w.heap.size w w' := by
  have hu := Try.underlying63
  have HZ := Lib.hid ze29
  obtain ⟨zs, hzs⟩ : ∃ zs, zs = ecells 0 0 0 0 0 zeros := ⟨_, rfl⟩
  have HC : Hid (∀ wx : World, Calls Try.prog 42 #[.agg zs.toArray] wx fun e w' => e = .returned (.int .i64 1) ∧ Below wx.heap.size wx w') := Lib.hid (fun wx => by rw [hzs]; exact echeck_any 0 0 0 0 0#32 zeros wx zeros_len)
  have HG1 := Lib.hid (fun wx : World => has_grp 0 wx)
  have HI1 := Lib.hid (fun wx : World => has_idk 0 wx)
  have HP1 := Lib.hid (fun wx : World => has_ptk 0 wx)
  rw [show grp 0 = false from rfl] at HG1
  rw [show idk 0 = false from rfl] at HI1
  rw [show ptk 0 = false from rfl] at HP1
  have HZL := Lib.hid (show zs.length = 29 by rw [hzs]; exact ecells_len _ _ _ _ _ zeros_len)
  have O8 : zs.toArray.all (·.oneCell') = true := all_oneCell_toArray (by rw [hzs]; exact ecells_one _ _ _ _ _ _)
  rw [← hzs] at HZ ⊢
  have HZS := Lib.hid hzs
  have B1 := Blk.new w zs 63
  have hw0 : Below w.heap.size w (w.alloc (.cells zs.toArray 63)) := (Below.refl w.heap.size w).alloc (Nat.le_refl _) _
  have hsz : w.heap.size + 1 ≤ (w.alloc (.cells zs.toArray 63)).heap.size := by simp
  generalize hW : w.alloc (.cells zs.toArray 63) = W at *
  have HW := Lib.hid hW
  clear hW hzs
  go_enter Try.func48, Try.ntmps48
  go_wp2_with fail
  rw [← HZ.out, HW.out]
  clear HW
  refine (nil_aboveE _ _).mono ?_
  rintro x w1 ⟨rfl, rfl⟩
  have B3 := Blk.new W zs 63
  have T3 := B3.there 0 29 (by rw [HZL.out]; omega)
  have S3 := B3.wholeT (ds := zs) rfl
  have LE3 : Le W (World.setCells (W.alloc (.cells zs.toArray 63)) W.heap.size 0 zs) := below_sets (Nat.le_refl _) _ 0 ((Below.refl W.heap.size W).alloc (Nat.le_refl _) _)
  obtain ⟨g3, hg3⟩ : ∃ z, z = W.heap.size := ⟨_, rfl⟩
  rw [← hg3] at T3 S3 LE3 hsz
  have HG3 := Lib.hid hg3
  clear hg3 B3
  go_wp2_with (first
    | (rw [← HZ.out, ← HG3.out]
       refine wpList_store_mid rfl 63 (.tmp 3) (.tmp 6) rfl g3 0 zs.toArray rfl (by rw [HZS.out]; rfl) (by simpa [HZL.out] using T3) (by simpa [HZL.out] using info_edit) O8 ?_
       simp only [Act.put]
       generalize hw3 : World.setCells _ g3 0 zs.toArray.toList = w3
       have S4 : Blk w3 g3 zs := hw3 ▸ S3
       have LE3' : Le W w3 := hw3 ▸ LE3
       have q4 : w3.cell? ⟨g3, 0, none⟩ = some (.int .i64 0) := by
         have S5 := S4
         rw [HZS.out] at S5
         exact S5.cell rfl
       have RG := S4.wholeC
       clear hw3 T3 S3 LE3)
    | fail)
  refine (HG1.out _).mono ?_
  rintro e' w3' ⟨rfl, rfl⟩
  go_wp2_with fail
  refine (HI1.out _).mono ?_
  rintro e' w3' ⟨rfl, rfl⟩
  go_wp2_with fail
  refine (HP1.out _).mono ?_
  rintro e' w3' ⟨rfl, rfl⟩
  go_wp2_with (first
    | (refine wpList_load_mid rfl 63 (.tmp 3) rfl g3 0 rfl zs _ RG hu rfl (by rw [HZL.out]; exact info_edit) ?_)
    | fail)
  refine (HC.out _).mono ?_
  rintro e' w7 ⟨rfl, hb7⟩
  have B7 := (B1.later LE3').later hb7
  have H3 := hw0.trans (LE3'.mono hw0.size)
  have H7 := H3.trans (hb7.mono H3.size)
  clear B1 hw0 hb7 H3 RG S4 q4 LE3'
  go_wp2_with fail
  refine (nil_fail _ _).mono ?_
  rintro e' w8 ⟨rfl, rfl⟩
  go_wp2_with fail
  refine (nil_err _).mono ?_
  rintro e' w9 ⟨rfl, rfl⟩
  have T8 := B7.there 0 29 (by rw [HZL.out]; omega)
  have FIN := B7.wholeT (ds := zs) rfl
  have H9 := below_sets (Nat.le_refl w.heap.size) zs 0 H7
  clear B7 H7
  go_wp2_with (first
    | (refine wpList_store_mid rfl 63 (.tmp 2) (.tmp 33) rfl w.heap.size 0 zs.toArray rfl (by rw [HZS.out]; rfl) (by simpa [HZL.out] using T8) (by simpa [HZL.out] using info_edit) O8 ?_)
    | fail)
  exact bodyPost_ret (v := .agg zs.toArray) (tok_results (q := 2) rfl _ _ w.heap.size zs _ rfl FIN hu rfl (by rw [HZL.out]; exact info_edit)) rfl ⟨rfl, H9⟩
end Go.Proofs.Ytgpbglmlakildaa

/- A region that draws its order, whose first operations turn memory, and whose others wait for them: the first by all their orders, the others walked once. -/
namespace Go.Proofs.Ytgpbglmlakildaa
set_option linter.unusedVariables false
open Go Go.RowKit

/-- The values of the first operations, put. -/
def putsAll : List Oper → List Value → Act → Act
  | o :: l, v :: vs, a => putsAll l vs (a.put o.dst v)
  | _, _, a => a
section
variable {P : Program} {ops : Array Oper} {md : Region.Mode} {Q : Exit → Act → World → Prop}
theorem wpAny_step {fuel : Nat} {listed : Array Bool} {a : Act} {w : World} (r : List Nat) (hr : Region.ready md ops listed = r) (hne : r.isEmpty = false)
    (h : ∀ i ∈ r, wpOp P ops Q i (wpAny P md ops Q fuel (listed.setIfInBounds i true)) a w) : wpAny P md ops Q (fuel + 1) listed a w := by
  subst hr
  exact ⟨fun h0 => absurd hne (by rw [h0]; simp), h⟩
theorem wpOp_move {i : Nat} {a : Act} {w : World} {K : Act → World → Prop} (o : Oper) (ho : ops[i]? = some o) (x : Operand) (hx : o.op = .move x) (hw : Region.wanted o (yielded ops a.tmps) = true) (h : K (a.put o.dst (a.eval x)) w) : wpOp P ops Q i K a w := by
  unfold wpOp
  simp only [ho, hw, if_true]
  left
  unfold Oper.wp execOp
  simp only [hx, Sem.run_pure, Oper.upon]
  exact h
theorem wpOp_call {i : Nat} {a : Act} {w : World} {K : Act → World → Prop} (o : Oper) (ho : ops[i]? = some o) (f : FuncId) (args : Array Value) (hx : (execOp a.eval o).run P w = .ok (.enter f args) w) (hw : Region.wanted o (yielded ops a.tmps) = true)
    (h : Calls P f args w fun e w' => ∃ v, e = .returned v ∧ K (a.put o.dst v) w') : wpOp P ops Q i K a w := by
  unfold wpOp
  simp only [ho, hw, if_true]
  left
  unfold Oper.wp
  rw [hx]
  simp only [Oper.upon]
  exact h.mono fun e w' ⟨v, he, hk⟩ => by subst he; exact hk
end
theorem wpAny_rest {P : Program} {Q : Exit → Act → World → Prop} {l : List Oper} {a : Act} {w : World} (k n : Nat) (listed : Array Bool) (hs : Region.noSelect l.toArray = true) (hf : fedB l [] n = true)
    (hB : Region.lexFrom .any l.toArray (l.drop k).length k listed = true) (hn : a.tmps.size = n)
    (h : wpG P l.toArray (openOf []) w (fun a' w' => Q .normal a' w') (l.drop k) a (fun _ => True)) : wpAny P .any l.toArray Q (l.drop k).length listed a w := by
  obtain ⟨hF, hd⟩ := fedB_fed (g := []) (n := n) hf
  have hI : Inv l.toArray (openOf []) w listed a w := ⟨Le.refl w, fun k o d R _ _ _ hG => by simp [openOf] at hG⟩
  refine wpAny_of_G (Qn := fun a' w' => Q .normal a' w') (w0 := w) hF (fun _ _ h => h) _ _ _ _ hI ?_
  exact wpAnyG_lex hF hs n hd (l.drop k) k listed a (fun _ => True) (fun j => by rw [List.getElem?_toArray, List.getElem?_drop]) hB hn ⟨w, hI⟩ (fun _ _ => trivial) h
/-- The first k operations in all their orders (head); the others once (tail). -/
theorem wp_region_head {P : Program} {id : Nat} {Q : Exit → Act → World → Prop} {a : Act} {w : World} {l : List Oper} (k n : Nat) (listed : Array Bool) (vs : List Value) (S : World → Prop) (hm : P.follows .mixedOrders = true)
    (hs : Region.noSelect l.toArray = true) (hf : fedB l [] n = true) (hB : Region.lexFrom .any l.toArray (l.drop k).length k listed = true) (hn : (putsAll l vs a).tmps.size = n)
    (head : (∀ w', S w' → wpAny P .any l.toArray Q (l.drop k).length listed (putsAll l vs a) w') → wpAny P .any l.toArray Q l.length (Array.replicate l.length false) a { w with drawn := w.drawn + 1 })
    (tail : ∀ w', S w' → wpG P l.toArray (openOf []) w' (fun a' w' => Q .normal a' w') (l.drop k) (putsAll l vs a) (fun _ => True)) : (Code.region id l.toArray true).wp P Q a w := by
  refine wp_region_any hm ?_
  simpa using head fun w' hS => wpAny_rest k n listed hs hf hB hn (tail w' hS)
end Go.Proofs.Ytgpbglmlakildaa

/- EditReads: the walk. -/
namespace Go.Proofs.Ytgpbglmlakildaa
set_option linter.unusedVariables false
set_option linter.unusedSimpArgs false
open Go Go.RowKit OctM

set_option maxRecDepth 100000 in
set_option maxHeartbeats 6400000 in
theorem walk_edreads (A : Option Addr) (n c : Nat) (l : List UInt8) (w : World) (hn : l.length = n) (hs : Sees w w.heap.size A (bvs l)) :
    Calls Try.prog 10 #[.slice A n c] w fun e w' => e = .returned (.bool true) ∧ Below w.heap.size w w' := by
  have HAW := Lib.hid (fun (wx : World) => edit_awake wx)
  by_cases h5 : n ≤ 1000
  · have d3 : decide ((1000 : Int) < (n : Int)) = false := by simp; omega
    have HN := Lib.hid (rd_new A n c l w hn hs (by omega))
    have HNL := Lib.hid hn
    go_enter Try.func10, Try.ntmps10
    go_wp2_with fail
    refine HN.out.mono ?_
    rintro e w1 ⟨gr, rfl, r1, b1⟩
    obtain ⟨sl, hsl⟩ : ∃ sl, sl = str l := ⟨_, rfl⟩
    have hc1 := str_conv w1 w1.heap.size A n c l sl HNL.out ((hs.below b1).more b1.size) hsl
    have hgr := r1.block
    have HSL := Lib.hid hsl
    clear hn hsl
    go_wp2_with fail
    have T0 : Same2 w (w1.alloc (.cells #[.string sl, .int .i64 0] 52)) gr w1.heap.size l 0 0 := by
      refine ⟨⟨r1.later ((Below.refl _ _).alloc (Nat.le_refl _) _), ?_, hgr.2, b1.alloc b1.size _⟩, Nat.zero_le _, by rw [HNL.out]; omega⟩
      have h := own_lit w1 w.heap.size 52 #[.string sl, .int .i64 0] b1.size (by simp [maxLen])
      rw [HSL.out] at h ⊢
      exact h
    generalize hgm : w1.heap.size = gm at T0 ⊢
    clear hc1 r1 b1 hgr hgm HSL HN
    go_loopw [5] (fun i wr => ∃ (k a : Nat) (e : Int), k ≤ 4 ∧ i = .int .i64 k ∧ Same2 w wr gr gm l a e) (fun i _ => 4 - (intOf i).toNat)
    case atStart => exact ⟨0, 0, 0, by omega, rfl, T0⟩
    case round =>
      obtain ⟨k, a, e, hk, rfl, T, ha, hm⟩ := hrel
      have HT := Lib.hid T
      clear T0
      by_cases hlt : k < 4
      · have q2 : (k : Int) < 4 := by omega
        have ha2 := editOut_at l a e ha
        have H1 := Lib.hid (fun wx (T : Two w wx gr gm l a e (l.drop a) e) => (rd_edit _ gr l a e wx T.1 ha hm).mono fun x w' h => (show x = .returned (.agg (ec6 (editOut l a e).1).toArray) ∧ Two w w' gr gm l (editOut l a e).2.1 (editOut l a e).2.2 (l.drop a) e from ⟨h.1, T.first h.2.1 h.2.2⟩))
        have H2 := Lib.hid (fun wx (T : Two w wx gr gm l (editOut l a e).2.1 (editOut l a e).2.2 (l.drop a) e) => (rr_edit _ gm l a e wx T.2.1 ha hm).mono fun x w' h => (show x = .returned (.agg (ec6 (editOut l a e).1).toArray) ∧ Two w w' gr gm l (editOut l a e).2.1 (editOut l a e).2.2 (l.drop (editOut l a e).2.1) (editOut l a e).2.2 from ⟨h.1, T.second h.2.1 h.2.2⟩))
        obtain ⟨cs, hcs⟩ : ∃ cs, cs = ec6 (editOut l a e).1 := ⟨_, rfl⟩
        have HSC : Hid (∀ wx : World, (Op.equalIn 10000 63 (.agg cs.toArray) (.agg cs.toArray)).run Try.prog wx = .ok true wx) := Lib.hid (fun wx => by rw [hcs]; exact same_e _ _ _ _ _ _ (editOut_len l a e) wx)
        rw [← hcs] at H1 H2
        clear hcs
        obtain ⟨⟨q0, a2, e2⟩, hq⟩ : ∃ q, q = editOut l a e := ⟨_, rfl⟩
        rw [← hq] at H1 H2 ha2
        simp only at H1 H2 ha2
        clear hq T d3 hs
        go_wp2_with fail
        refine wp_region_head 4 50 #[true, true, true, true, false, false, false, false, false, false, false, false, false, false, false, false, false, false, false, false, false, false, false, false] [.pointer (some ⟨gr, 0, none⟩), .agg cs.toArray, .pointer (some ⟨gm, 0, none⟩), .agg cs.toArray] (fun w' => Two w w' gr gm l a2 e2 (l.drop a2) e2) (by kernel_rfl) (by kernel_rfl) (by kernel_rfl) (by kernel_rfl) (by rfl) ?_ ?_
        · intro TAIL
          have T0 := HT.out.later ((Below.refl _ _).drew)
          refine wpAny_step (fuel := 23) [0, 2] (by kernel_rfl) rfl (fun i hi => ?_)
          simp only [List.mem_cons, List.not_mem_nil, or_false] at hi
          rcases hi with rfl | rfl
          · refine wpOp_move _ rfl (.tmp 3) rfl (by rfl) ?_
            simp only [Act.put, List.setIfInBounds_toArray, List.set_cons_zero, List.set_cons_succ]
            refine wpAny_step (fuel := 22) [1, 2] (by kernel_rfl) rfl (fun i hi => ?_)
            simp only [List.mem_cons, List.not_mem_nil, or_false] at hi
            rcases hi with rfl | rfl
            · refine wpOp_call _ rfl 48 #[.pointer (some ⟨gr, 0, none⟩)] (by simp [go_sem]) (by rfl) ((H1.out _ T0).mono ?_)
              rintro e' w1 ⟨rfl, T1⟩
              refine ⟨_, rfl, ?_⟩
              simp only [Act.put, List.setIfInBounds_toArray, List.set_cons_zero, List.set_cons_succ]
              refine wpAny_step (fuel := 21) [2] (by kernel_rfl) rfl (fun i hi => ?_)
              simp only [List.mem_cons, List.not_mem_nil, or_false] at hi
              subst hi
              refine wpOp_move _ rfl (.tmp 4) rfl (by rfl) ?_
              simp only [Act.put, List.setIfInBounds_toArray, List.set_cons_zero, List.set_cons_succ]
              refine wpAny_step (fuel := 20) [3] (by kernel_rfl) rfl (fun i hi => ?_)
              simp only [List.mem_cons, List.not_mem_nil, or_false] at hi
              subst hi
              refine wpOp_call _ rfl 49 #[.pointer (some ⟨gm, 0, none⟩)] (by simp [go_sem]) (by rfl) ((H2.out _ T1).mono ?_)
              rintro e' w2 ⟨rfl, T2⟩
              refine ⟨_, rfl, ?_⟩
              simp only [Act.put, List.setIfInBounds_toArray, List.set_cons_zero, List.set_cons_succ]
              exact TAIL _ T2
            · refine wpOp_move _ rfl (.tmp 4) rfl (by rfl) ?_
              simp only [Act.put, List.setIfInBounds_toArray, List.set_cons_zero, List.set_cons_succ]
              refine wpAny_step (fuel := 21) [1] (by kernel_rfl) rfl (fun i hi => ?_)
              simp only [List.mem_cons, List.not_mem_nil, or_false] at hi
              subst hi
              refine wpOp_call _ rfl 48 #[.pointer (some ⟨gr, 0, none⟩)] (by simp [go_sem]) (by rfl) ((H1.out _ T0).mono ?_)
              rintro e' w1 ⟨rfl, T1⟩
              refine ⟨_, rfl, ?_⟩
              simp only [Act.put, List.setIfInBounds_toArray, List.set_cons_zero, List.set_cons_succ]
              refine wpAny_step (fuel := 20) [3] (by kernel_rfl) rfl (fun i hi => ?_)
              simp only [List.mem_cons, List.not_mem_nil, or_false] at hi
              subst hi
              refine wpOp_call _ rfl 49 #[.pointer (some ⟨gm, 0, none⟩)] (by simp [go_sem]) (by rfl) ((H2.out _ T1).mono ?_)
              rintro e' w2 ⟨rfl, T2⟩
              refine ⟨_, rfl, ?_⟩
              simp only [Act.put, List.setIfInBounds_toArray, List.set_cons_zero, List.set_cons_succ]
              exact TAIL _ T2
          · refine wpOp_move _ rfl (.tmp 4) rfl (by rfl) ?_
            simp only [Act.put, List.setIfInBounds_toArray, List.set_cons_zero, List.set_cons_succ]
            refine wpAny_step (fuel := 22) [0] (by kernel_rfl) rfl (fun i hi => ?_)
            simp only [List.mem_cons, List.not_mem_nil, or_false] at hi
            subst hi
            refine wpOp_move _ rfl (.tmp 3) rfl (by rfl) ?_
            simp only [Act.put, List.setIfInBounds_toArray, List.set_cons_zero, List.set_cons_succ]
            refine wpAny_step (fuel := 21) [1] (by kernel_rfl) rfl (fun i hi => ?_)
            simp only [List.mem_cons, List.not_mem_nil, or_false] at hi
            subst hi
            refine wpOp_call _ rfl 48 #[.pointer (some ⟨gr, 0, none⟩)] (by simp [go_sem]) (by rfl) ((H1.out _ T0).mono ?_)
            rintro e' w1 ⟨rfl, T1⟩
            refine ⟨_, rfl, ?_⟩
            simp only [Act.put, List.setIfInBounds_toArray, List.set_cons_zero, List.set_cons_succ]
            refine wpAny_step (fuel := 20) [3] (by kernel_rfl) rfl (fun i hi => ?_)
            simp only [List.mem_cons, List.not_mem_nil, or_false] at hi
            subst hi
            refine wpOp_call _ rfl 49 #[.pointer (some ⟨gm, 0, none⟩)] (by simp [go_sem]) (by rfl) ((H2.out _ T1).mono ?_)
            rintro e' w2 ⟨rfl, T2⟩
            refine ⟨_, rfl, ?_⟩
            simp only [Act.put, List.setIfInBounds_toArray, List.set_cons_zero, List.set_cons_succ]
            exact TAIL _ T2
        · intro w5 T5
          obtain ⟨rest, hrest⟩ : ∃ r, r = l.length - a2 := ⟨_, rfl⟩
          obtain ⟨sr, hsr⟩ : ∃ sr, sr = str (l.drop a2) := ⟨_, rfl⟩
          have zr : sr.size = rest := by rw [hsr, str_size, List.length_drop, hrest]
          have hr2 : rest ≤ 2000 := by omega
          have HLE := Lib.hid (fun wx (T : Two w wx gr gm l a2 e2 (l.drop a2) e2) => two_left T ha2 hm rest hrest)
          have HER := Lib.hid (fun wx (T : Two w wx gr gm l a2 e2 (l.drop a2) e2) => two_err T)
          have hm0 : ∀ k : LW w5, k.val.cell? ⟨gm, 0, none⟩ = some (.string sr) := fun k => by rw [hsr]; exact (two_cells (T5.later k.le)).1
          have hm1 : ∀ k : LW w5, k.val.cell? ⟨gm, 1, none⟩ = some (.int .i64 e2) := fun k => (two_cells (T5.later k.le)).2
          clear hrest hsr
          simp only [putsAll, List.drop_succ_cons, List.drop_zero]
          simp only [Act.put, List.setIfInBounds_toArray, List.set_cons_zero, List.set_cons_succ]
          refine wpG_run (by rfl) (by rfl) (.bool false) (fun w1 hl => exec_neq 63 _ (.tmp 21) (.tmp 23) rfl _ _ rfl rfl guard_edit true (HSC.out w1)) ?_
          simp only [Act.put, List.setIfInBounds_toArray, List.set_cons_zero, List.set_cons_succ]
          iterate 2 (refine wpG_quiet (by rfl) (by rfl) (by rfl) (fun K hK => ?_); go_big_quiet_op; refine hK _ ?_; clear hK K)
          refine wpG_call (by rfl) (by rfl) 38 #[.pointer (some ⟨gr, 0, none⟩)] (.int .i64 e2) (by intro _; simp [go_sem]) (by kernel_rfl) (fun w1 hl => HER.out w1 (T5.later hl.1)) ?_
          simp only [Act.put, List.setIfInBounds_toArray, List.set_cons_zero, List.set_cons_succ]
          iterate 8 (refine wpG_quiet (by rfl) (by rfl) (by rfl) (fun K hK => ?_); go_big_quiet_op; refine hK _ ?_; clear hK K)
          refine wpG_call (by rfl) (by rfl) 39 #[.pointer (some ⟨gr, 0, none⟩)] (.int .i64 rest) (by intro _; simp [go_sem]) (by kernel_rfl) (fun w1 hl => HLE.out w1 (T5.later hl.1)) ?_
          simp only [Act.put, List.setIfInBounds_toArray, List.set_cons_zero, List.set_cons_succ]
          iterate 7 (refine wpG_quiet (by rfl) (by rfl) (by rfl) (fun K hK => ?_); go_big_quiet_op; refine hK _ ?_; clear hK K)
          refine wpG_nil (fun w6 hl6 _ => ?_)
          have T6 := T5.later hl6
          go_wp2_with fail
          go_roundw
          case rel => exact ⟨k + 1, a2, e2, by omega, by go_num, T6, ha2, hm⟩
          case measure => simp [intOf]; omega
      · obtain rfl : k = 4 := by omega
        clear d3 hs
        go_wp2_with fail
        refine (nil_edit _).mono ?_
        rintro e' w2 ⟨rfl, b2⟩
        have T2 := HT.out.later b2
        clear T HT b2
        go_wp2_with (first
          | (refine wpList_exec (by rfl) (.bool true) (exec_eql 63 _ (.tmp 44) (.tmp 45) rfl (ecells 0 0 0 0 0 zeros).toArray (ecells 0 0 0 0 0 zeros).toArray (by rfl) (by rfl) guard_edit true (same_e 0 0 0 0 0 zeros zeros_len _)) ?_)
          | fail)
        refine (HAW.out _).mono ?_
        rintro e' w3 ⟨rfl, b3⟩
        have T3 := T2.later b3
        go_wp2_with fail
        go_ret
        exact ⟨rfl, T3.2.2.2⟩
  · have d3 : decide ((1000 : Int) < (n : Int)) = true := by simp; omega
    clear hs hn
    go_enter Try.func10, Try.ntmps10
    go_wp2_with fail
    refine (HAW.out _).mono ?_
    rintro e' w3 ⟨rfl, b3⟩
    go_wp2_with fail
    go_ret
    exact ⟨rfl, b3⟩
end Go.Proofs.Ytgpbglmlakildaa

/- CardwireReads: the walk. -/
namespace Go.Proofs.Ytgpbglmlakildaa
set_option linter.unusedVariables false
set_option linter.unusedSimpArgs false
open Go Go.RowKit OctM

theorem guard_patch : Try.prog.eqGuardType Try.prog.depth 61 = false := by kernel_rfl
theorem same_v (v : V3) (w : World) : (Op.equalIn 10000 27 (.agg (vcells v).toArray) (.agg (vcells v).toArray)).run Try.prog w = .ok true w := by
  rw [eq_val 9998 v v w, decide_eq_true rfl]
theorem same_p (m lab : Int) (f : List V3) (hf : f.length = 8) (w : World) : (Op.equalIn 10000 61 (.agg (pcells m lab f).toArray) (.agg (pcells m lab f).toArray)).run Try.prog w = .ok true w := by
  rw [eq_patch 9996 m lab m lab f f hf hf w, decide_eq_true (show m = m ∧ lab = lab ∧ f = f from ⟨rfl, rfl, rfl⟩)]

end Go.Proofs.Ytgpbglmlakildaa

/- CardwireBack: the walk. -/
namespace Go.Proofs.Ytgpbglmlakildaa
set_option linter.unusedVariables false
set_option linter.unusedSimpArgs false
open Go Go.RowKit OctM

theorem below_row {a b c : World} {m : Nat} (h : Below a.heap.size a b) (k : b.grownBy c (some m)) (hm : a.heap.size ≤ m) : Below a.heap.size a c :=
  ⟨k.os.trans h.os, k.tape.trans h.tape, k.output.trans h.output, Nat.le_trans h.size k.size, fun i hi => (k.block i (Nat.lt_of_lt_of_le hi h.size) (by simp; omega)).trans (h.block i hi)⟩
theorem Rd.to {w : World} {base g : Nat} {l : List UInt8} {a a' : Nat} {e e' : Int} (h : Rd w base g l a e) (ha : a = a') (he : e = e') : Rd w base g l a' e' := by subst ha he; exact h
end Go.Proofs.Ytgpbglmlakildaa

/- CardwireOnly: the walk. -/
namespace Go.Proofs.Ytgpbglmlakildaa
set_option linter.unusedVariables false
set_option linter.unusedSimpArgs false
open Go Go.RowKit OctM

theorem Sees.join {w w' : World} {B B' : Nat} {A : Option Addr} {xs : List Value} (h : Sees w B A xs) (h' : Sees w' B' A xs) : Sees w' B A xs := by
  intro hp
  obtain ⟨b, o, e, hb, _⟩ := h hp
  obtain ⟨b', o', e', _, hc⟩ := h' hp
  rw [e] at e'
  injection e' with e'
  injection e' with e1 e2
  subst e1 e2
  exact ⟨b, o, e, hb, hc⟩
/-- A reader whose bytes are known to be new memory, too. -/
def RdB (w : World) (base g : Nat) (l : List UInt8) (at_ : Nat) (err : Int) : Prop :=
  ∃ A c, l.length ≤ c ∧ c ≤ maxLen ∧ Own w base 93 (.slice (some ⟨g, 0, none⟩) 3 3) [.slice A l.length c, .int .i64 at_, .int .i64 err] ∧ Own w base 5 (.slice A l.length c) (bvs l) ∧ Sees w g A (bvs l)
theorem RdB.rd {w : World} {base g : Nat} {l : List UInt8} {a : Nat} {e : Int} (h : RdB w base g l a e) : Rd w base g l a e := by
  obtain ⟨A, c, h1, h2, h3, h4, h5⟩ := h
  exact ⟨A, c, h1, h2, h3, h5⟩
theorem RdB.off {w w' : World} {base g m : Nat} {l : List UInt8} {a : Nat} {e : Int} (h : RdB w base g l a e) (hg : w.grownBy w' (some m)) (hm : m < base) : RdB w' base g l a e := by
  obtain ⟨A, c, h1, h2, h3, h4, h5⟩ := h
  have h6 := h4.other hg hm
  exact ⟨A, c, h1, h2, h3.other hg hm, h6, h5.join h6.sees⟩
theorem rd_newB (A : Option Addr) (n c : Nat) (l : List UInt8) (w : World) (hn : l.length = n) (hs : Sees w w.heap.size A (bvs l)) (hm : n ≤ 1048576) :
    Calls Try.prog 35 #[.slice A n c] w fun e w' => ∃ g, e = .returned (.pointer (some ⟨g, 0, none⟩)) ∧ RdB w' w.heap.size g l 0 0 ∧ Below w.heap.size w w' := by
  have HF := Lib.hid (oct_fresh A n c l 0 w hn hs hm (by omega))
  have HN := Lib.hid hn
  clear hn hs
  go_enter Try.func35, Try.ntmps35
  go_wp2_with fail
  refine HF.out.mono ?_
  rintro e w1 ⟨A1, c1, rfl, o1, b1⟩
  have s1 := o1.sees
  have k1 := o1.cap
  go_wp2_with fail
  go_ret
  refine ⟨w1.heap.size, rfl, ⟨A1, c1, by rw [HN.out]; exact k1.1, k1.2, ?_, ?_, s1.alloc (Nat.le_refl _) _⟩, b1.alloc b1.size _⟩
  · have h := own_lit w1 w.heap.size 93 #[.slice A1 n c1, .int .i64 0, .int .i64 0] b1.size (by simp [maxLen])
    rw [HN.out]
    exact h
  · rw [HN.out]; exact o1.alloc _
theorem cutto_fact {P : Program} (t e : TypeId) (i : TypeInfo) (ht : P.underlying t = some (.slice e)) (hi : P.info? e = some i) (hsz : i.size = 1) {w : World} {B : Nat} {A : Option Addr} {xs : List Value} (h : Sees w B A xs)
    (n m c : Nat) (H : Int) (kh : IntKind) (hn : xs.length = n) (hm : m ≤ n) (hH : H = (m : Int)) (hc : n ≤ c) :
    ∃ A2, (∀ wx, (Instr.slice t (.slice A n c) none (some (.int kh H)) none).run P wx = .ok (.slice A2 m c) wx) ∧ Sees w B A2 (xs.take m) := by
  refine ⟨if c = 0 then A else A.map (·.add 0), fun wx => ?_, ?_⟩
  · have he : P.elem t = e := by simp [Program.elem, ht]
    have ht' : P.underlying t = some (.slice (P.elem t)) := by rw [he]; exact ht
    rw [run_slice_h wx t A n c ht' kh H (by omega) (by omega), he]
    simp [sizeOf, typeInfo, hi, hsz, sliced, hH]
  · have := (h.cut (k := 0) (cap := c) (by omega)).take m
    simpa using this

theorem sees_take {w : World} {B : Nat} {A : Option Addr} {l b : List UInt8} {m : Nat} (h : Sees w B A ((bvs l).take m)) (hb : l.take m = b) : Sees w B A (bvs b) := by
  subst hb
  unfold bvs at *
  rw [List.map_take]
  exact h
theorem pat_said (l : List UInt8) (h0 : (patOut l 0 0).2.2 = 0) : ∃ bp : List UInt8, bp.length = (patOut l 0 0).2.1 ∧ l.take (patOut l 0 0).2.1 = bp ∧
    (∀ wx : World, Calls Try.prog 80 #[.agg (pc3 (patOut l 0 0).1).toArray] wx fun e w' => e = .returned (.int .i64 0) ∧ Below wx.heap.size wx w') ∧
    (∀ wx : World, Calls Try.prog 81 #[.slice none 0 0, .agg (pc3 (patOut l 0 0).1).toArray] wx (GivesBytes wx bp)) := by
  obtain ⟨x, g1, g2, g3, g4, g5⟩ := pat_only (l := l) (a := 0) (e := 0) h0
  have hf := patOut_len l 0 0
  generalize hT : patOut l 0 0 = T at *
  obtain ⟨⟨m, lab, f⟩, a, e⟩ := T
  simp only at g1 g2 g3 g4 g5 hf ⊢
  subst g1
  rw [List.drop_zero] at g4
  rw [Nat.zero_add] at g5
  refine ⟨pbs x lab f, g5.symm, by rw [g5, g4, List.take_left], fun wx => ?_, fun wx => ?_⟩
  · have h := rpcheck_any x lab f wx hf
    rw [g2] at h
    exact h
  · have h := putpatch_any x lab f none 0 0 [] wx hf g3 rfl Sees.nil_ (by omega)
    rw [List.nil_append] at h
    exact h

end Go.Proofs.Ytgpbglmlakildaa

/- EditBack: the walk. -/
namespace Go.Proofs.Ytgpbglmlakildaa
set_option linter.unusedVariables false
set_option linter.unusedSimpArgs false
open Go Go.RowKit OctM

theorem edit_said (l : List UInt8) (h0 : (editOut l 0 0).2.2 = 0) : ∃ bc : List UInt8, bc.length = (editOut l 0 0).2.1 ∧ l.take (editOut l 0 0).2.1 = bc ∧
    (∀ wx : World, Calls Try.prog 43 #[.agg (ec6 (editOut l 0 0).1).toArray] wx fun e w' => e = .returned (.int .i64 0) ∧ Below wx.heap.size wx w') ∧
    (∀ wx : World, Calls Try.prog 46 #[.slice none 0 0, .agg (ec6 (editOut l 0 0).1).toArray] wx (GivesBytes wx bc)) := by
  obtain ⟨x, g1, g2, g3, g4, g5⟩ := edit_only (l := l) (a := 0) (e := 0) h0
  have hf := editOut_len l 0 0
  generalize hT : editOut l 0 0 = T at *
  obtain ⟨⟨k, id, gr, m, lab, f⟩, a, e⟩ := T
  simp only at g1 g2 g3 g4 g5 hf ⊢
  subst g1
  rw [List.drop_zero] at g4
  rw [Nat.zero_add] at g5
  refine ⟨ebs k id gr x lab f, g5.symm, by rw [g5, g4, List.take_left], fun wx => ?_, fun wx => ?_⟩
  · have h := recheck_any k id gr lab x f wx hf
    rw [g3] at h
    exact h
  · have h := eput_any k id gr lab x f none 0 0 [] wx hf g2 rfl Sees.nil_ (by omega)
    rw [List.nil_append] at h
    exact h
end Go.Proofs.Ytgpbglmlakildaa

/- EditBack: the walk. -/
namespace Go.Proofs.Ytgpbglmlakildaa
set_option linter.unusedVariables false
set_option linter.unusedSimpArgs false
open Go Go.RowKit OctM BitM

set_option maxRecDepth 100000 in
set_option maxHeartbeats 3200000 in
theorem walk_edback (k id gp lab : Int) (x : BitVec 32) (f : List V3) (A : Option Addr) (n c : Nat) (l : List UInt8) (w : World) (hf : f.length = 8) (hlb : 0 ≤ lab) (hn : l.length = n) (hnc : n ≤ c) (hs : Sees w w.heap.size A (bvs l)) :
    Calls Try.prog 11 #[.agg (ecells k id gp (x.toNat : Int) lab f).toArray, .slice A n c] w fun e w' => e = .returned (.bool true) ∧ Below w.heap.size w w' := by
  have HEL : Hid ((ecells k id gp (x.toNat : Int) lab f).length = 29) := Lib.hid (ecells_len k id gp (x.toNat : Int) lab hf)
  have HFC : Hid ((fcells f).length = 24) := Lib.hid (by rw [fcells_len, hf])
  have HA := Lib.hid (fun wx : World => large_any f wx hf)
  have B0 := Blk.new w (ecells k id gp (x.toNat : Int) lab f) 63
  have hw0 := (Below.refl w.heap.size w).alloc (Nat.le_refl _) (.cells (ecells k id gp (x.toNat : Int) lab f).toArray 63)
  have RF := B0.fieldsE
  have HNL := Lib.hid hn
  have HNC := Lib.hid hnc
  have HKE := Lib.hid (fun wx : World => recheck_any k id gp lab x f wx hf)
  have HPE := Lib.hid (fun wx : World => eput_any k id gp lab x f none 0 0 [] wx hf hlb rfl Sees.nil_ (by omega))
  simp only [List.nil_append] at HPE
  have HSE := Lib.hid (fun wx : World => same_e k id gp (x.toNat : Int) lab f hf wx)
  obtain ⟨ck, hck⟩ : ∃ z, z = echk k id gp x lab f := ⟨_, rfl⟩
  rw [← hck] at HKE
  obtain ⟨pz, hpz⟩ : ∃ b, b = (ck != 0) := ⟨_, rfl⟩
  have kz : (ck != 0) = pz := hpz.symm
  obtain ⟨lp, hlp⟩ : ∃ z, z = ebs k id gp x lab f := ⟨_, rfl⟩
  obtain ⟨kp, hkp⟩ : ∃ z, z = lp.length := ⟨_, rfl⟩
  have e3 : kp ≤ 420 := by rw [hkp, hlp]; exact ebs_len k id gp x lab f
  have HRD : Hid (pz = false → editOut (lp ++ l) 0 0 = ((k, id, gp, (x.toNat : Int), lab, f), kp, 0)) := Lib.hid (by
    intro h1
    have h3 : echk k id gp x lab f = 0 := by rw [← hck]; rw [h1] at hpz; simpa using hpz.symm
    have h4 := edit_put [] l k id gp x lab f hf hlb h3
    rw [hkp, hlp]
    simpa using h4)
  rw [← hlp] at HPE
  have MK : Hid (lp.length = kp) := Lib.hid hkp.symm
  have HON := Lib.hid (edit_said l)
  have AO := editOut_at l 0 0 (Nat.zero_le _)
  have H3 := Lib.hid (fun (hb5 : l.length ≤ 2000) (base g : Nat) (wx : World) (hx : Rd wx base g l 0 0) => rd_edit base g l 0 0 wx hx (Nat.zero_le _) hb5)
  obtain ⟨ac, hac⟩ : ∃ z, z = (editOut l 0 0).2.1 := ⟨_, rfl⟩
  obtain ⟨eC, hec0⟩ : ∃ z, z = (editOut l 0 0).2.2 := ⟨_, rfl⟩
  obtain ⟨rc, hrc⟩ : ∃ z, z = ec6 (editOut l 0 0).1 := ⟨_, rfl⟩
  rw [← hac, ← hec0, ← hrc] at H3
  rw [← hac] at AO
  rw [← hec0, ← hac, ← hrc] at HON
  have HRL := Lib.hid (show rc.length = 29 by rw [hrc]; exact ecells_len _ _ _ _ _ (editOut_len l 0 0))
  have OR : rc.toArray.all (·.oneCell') = true := all_oneCell_toArray (by rw [hrc]; exact ecells_one _ _ _ _ _ _)
  rw [hn] at AO
  obtain ⟨qc, hqc⟩ : ∃ q, q = n - ac := ⟨_, rfl⟩
  have HNQ := Lib.hid (show (n : Int) - (qc : Int) = (ac : Int) by omega)
  have HQC := Lib.hid (show ((l.length : Nat) : Int) - (ac : Int) = (qc : Int) by rw [hn]; omega)
  have bq : qc ≤ n := by omega
  obtain ⟨ec, hec⟩ : ∃ z, z = ecells k id gp (x.toNat : Int) lab f := ⟨_, rfl⟩
  have Hcc : Hid (ec6 (k, id, gp, (x.toNat : Int), lab, f) = ec) := Lib.hid hec.symm
  have OE : ec.toArray.all (·.oneCell') = true := all_oneCell_toArray (by rw [hec]; exact ecells_one _ _ _ _ _ _)
  rw [← hec] at HEL B0 RF hw0 HKE HPE HSE ⊢
  have HS := Lib.hid hs
  clear hec hac hec0 hrc hqc hlp hkp hck hpz hn hnc hf hlb hs
  generalize hW : w.alloc (.cells ec.toArray 63) = W at *
  have HW := Lib.hid hW
  have HBW := Lib.hid hw0
  clear hW hw0
  have hu8 := Try.underlying59
  have hue := Try.underlying63
  obtain ⟨i0, hi, hz0, hz1, hz2⟩ := oct_parts
  have HI := Lib.hid (And.intro hi (And.intro hz0 (And.intro hz1 hz2)))
  clear hi hz0 hz1 hz2
  rw [← HW.out] at RF
  obtain ⟨t1, ht1⟩ : ∃ t, t = tooLong f := ⟨_, rfl⟩
  rw [← ht1] at HA
  clear ht1
  cases t1
  all_goals
    go_enter Try.func11, Try.ntmps11
    go_wp2_with (first
      | (refine wpList_load_mid rfl 59 (.tmp 11) rfl w.heap.size 5 rfl (fcells f) _ RF hu8 rfl (by rw [HFC.out]; exact info_fields) ?_)
      | fail)
    rw [HW.out]
    refine (HA.out W).mono ?_
    rintro e w1 ⟨rfl, hb⟩
    have hb1 := HBW.out.trans (hb.mono HBW.out.size)
    have C0 := B0.later hb
    clear RF B0 HA hb HBW HW
  · by_cases h5 : n ≤ 500
    · have d5 : decide ((500 : Int) < (n : Int)) = false := by simp; omega
      go_wp2_with fail
      refine (rd_newB A n c l w1 HNL.out ((HS.out.below hb1).more hb1.size) (by omega)).mono ?_
      rintro e w2 ⟨gr, rfl, r2, b2⟩
      have hgr := r2.rd.block
      have hl0 := C0.lt
      have hb2 := hb1.trans (b2.mono hb1.size)
      replace C0 := C0.later b2
      have R2 := r2.rd
      clear b2 r2
      go_wp2_with fail
      refine (H3.out (by rw [HNL.out]; omega) _ _ _ R2).mono ?_
      rintro e w3 ⟨rfl, R3, g3⟩
      have hb3 := below_row hb2 g3 (by omega)
      replace C0 := C0.kept g3 (by simp; omega)
      clear R2 hb2 g3 H3
      obtain ⟨zs, hzs⟩ : ∃ zs, zs = ecells 0 0 0 0 0 zeros := ⟨_, rfl⟩
      have HZ := Lib.hid ze29
      have HZL := Lib.hid (show zs.length = 29 by rw [hzs]; exact ecells_len _ _ _ _ _ zeros_len)
      rw [← hzs] at HZ
      clear hzs
      have d1 := Blk.new w3 zs 63
      have LE : Le w3 (w3.alloc (.cells zs.toArray 63)) := (Below.refl w3.heap.size w3).alloc (Nat.le_refl _) _
      have hgr3 := R3.block.2
      have hc3 := C0.lt
      have rA := R3.later LE
      have cA := C0.later LE
      have hbA := hb3.trans (LE.mono hb3.size)
      have hw3 := hb3.size
      have T1 := d1.there 0 29 (by rw [HZL.out]; omega)
      obtain ⟨H, hH⟩ : ∃ H, H = w3.heap.size := ⟨_, rfl⟩
      rw [← hH] at d1 T1 hgr3 hc3 hw3
      have HH := Lib.hid hH
      generalize hWA : w3.alloc (.cells zs.toArray 63) = WA at *
      have HWA := Lib.hid hWA
      clear hH hWA LE R3 C0 hb3
      go_wp2_with (first
        | (rw [← HZ.out]
           rw [HWA.out, ← HH.out]
           refine wpList_store_mid rfl 63 (.tmp 6) (.tmp 23) rfl H 0 rc.toArray rfl rfl (by simpa [HRL.out] using T1) (by simpa [HRL.out] using info_edit) OR ?_
           simp only [Act.put]
           have f1 := d1.wholeT (ds := rc) (by rw [HRL.out, HZL.out])
           have f2 := Blk.setsOther (b := H) (g := w.heap.size) (by omega) rc 0 cA
           have fr := rA.other (grown_sets4 H rc 0 WA) (by omega)
           have fb := below_sets (B := w.heap.size) (b := H) (by omega) rc 0 hbA
           generalize hwb : World.setCells WA H 0 rc.toArray.toList = wb
           replace f1 : Blk wb H rc := hwb ▸ f1
           replace f2 : Blk wb w.heap.size ec := hwb ▸ f2
           replace fr : Rd wb w1.heap.size gr l ac eC := hwb ▸ fr
           replace fb : Below w.heap.size w wb := hwb ▸ fb
           clear hwb d1 cA rA hbA T1)
        | fail)
      refine (rd_left w1.heap.size gr l ac eC wb fr (by rw [HNL.out]; exact AO) (by rw [HNL.out]; omega)).mono ?_
      rintro e w7 ⟨rfl, k6, hw7⟩
      rw [HQC.out]
      have ir7 := fr.drewN k6
      have i17 := f1.drewN k6
      have i27 := f2.drewN k6
      have ib7 := below_drewN fb k6
      rw [← hw7] at ir7 i17 i27 ib7
      clear fr f1 f2 fb hw7
      have c0 : decide ((ac : Int) < 0) = false := by simp
      have c1 : decide ((n : Int) < (ac : Int)) = false := by simp; omega
      have c1n : decide (n < ac) = false := decide_eq_false (by omega)
      have hnq := HNQ.out
      have HEC := Lib.hid (fun wx (hl : Le w7 wx) => (rd_err w1.heap.size gr l ac eC wx (ir7.later hl)).mono fun e w' h => (show e = .returned (.int .i64 eC) ∧ Below wx.heap.size wx w' from ⟨h.1, h.2 ▸ Below.refl _ _⟩))
      have HRC : Hid (∀ wx, Le w7 wx → wx.rangeAt H 0 rc) := Lib.hid (fun wx hl => (i17.later hl).wholeC)
      have HBE : Hid (∀ wx, Le w7 wx → Blk wx w.heap.size ec) := Lib.hid (fun wx hl => i27.later hl)
      have hs7 : Sees w7 w7.heap.size A (bvs l) := (HS.out.below ib7).more ib7.size
      have HS7 : Hid (∀ wx, Le w7 wx → Sees wx wx.heap.size A (bvs l)) := Lib.hid (fun wx hl => (hs7.below hl).more hl.size)
      have hw7z : w.heap.size < w7.heap.size := i27.lt
      have HB7 := Lib.hid ib7
      have L77 := Le.refl w7
      clear ir7 i17 i27 ib7 hb1
      by_cases ec0 : eC = 0
      · have tc : (eC == 0) = true := by simpa using ec0
        obtain ⟨bc, mc0, hbt, hk1, hk2⟩ := HON.out ec0
        have MC := Lib.hid mc0
        have HKC := Lib.hid hk1
        have HPC := Lib.hid hk2
        obtain ⟨hi, hz0, hz1, hz2⟩ := HI.out
        obtain ⟨SC, hSC⟩ : ∃ z, z = str bc := ⟨_, rfl⟩
        have HVC : Hid (∀ (wx : World) (A' : Option Addr) (c' : Nat) (h : Sees wx wx.heap.size A' (bvs bc)), (convert 44 9 (.slice A' ac c')).run Try.prog wx = .ok (.string SC) wx) := Lib.hid (fun wx A' c' h => str_conv wx wx.heap.size A' ac c' bc SC MC.out h hSC)
        obtain ⟨A2c, hslSC, hssSC⟩ := cutto_fact 44 5 i0 Try.underlying44 hi hz1 hs7 n ac c (ac : Int) .i64 (by rw [bvs_length, HNL.out]) (by omega) rfl HNC.out
        have HUC : Hid (∀ wx : World, Le w7 wx → (convert 44 9 (.slice A2c ac c)).run Try.prog wx = .ok (.string SC) wx) := Lib.hid (fun wx hl => str_conv wx w7.heap.size A2c ac c bc SC MC.out ((sees_take hssSC hbt).below hl) hSC)
        clear hSC hssSC hbt
        clear mc0 hk1 hk2 ec0 hi hz0 hz1 hz2
        go_wp2_with fail
        refine wp_region_steady [(47, relSee ac bc)] 86 (by kernel_rfl) (by kernel_rfl) (by kernel_rfl) (by rfl) ?_
        iterate 8 (refine wpG_quiet (by rfl) (by rfl) (by rfl) (fun K hK => ?_); go_big_quiet_op; refine hK _ ?_; clear hK K)
        try simp only [c1n]
        iterate 2 (refine wpG_quiet (by rfl) (by rfl) (by rfl) (fun K hK => ?_); go_big_quiet_op; refine hK _ ?_; clear hK K)
        refine wpG_call (by rfl) (by rfl) 38 #[.pointer (some ⟨gr, 0, none⟩)] (.int .i64 eC) (by intro _; simp [go_sem]) (by kernel_rfl) (fun w1 hl => HEC.out w1 (L77.trans hl.1)) ?_
        simp only [Act.put, List.setIfInBounds_toArray, List.set_cons_zero, List.set_cons_succ]
        iterate 2 (refine wpG_quiet (by rfl) (by rfl) (by rfl) (fun K hK => ?_); go_big_quiet_op; refine hK _ ?_; clear hK K)
        refine wpG_run (by rfl) (by rfl) (.agg rc.toArray) (fun w1 hl => exec_load 63 (.tmp 6) rfl H 0 rfl rc _ (HRC.out w1 (L77.trans hl.1)) hue rfl (by rw [HRL.out]; exact info_edit)) ?_
        simp only [Act.put, List.setIfInBounds_toArray, List.set_cons_zero, List.set_cons_succ]
        refine wpG_call (by rfl) (by rfl) 43 #[.agg rc.toArray] (.int .i64 0) (by intro _; simp [go_sem]) (by kernel_rfl) (fun w1 hl => HKC.out w1) ?_
        simp only [Act.put, List.setIfInBounds_toArray, List.set_cons_zero, List.set_cons_succ]
        iterate 2 (refine wpG_quiet (by rfl) (by rfl) (by rfl) (fun K hK => ?_); go_big_quiet_op; refine hK _ ?_; clear hK K)
        refine wpG_run (by rfl) (by rfl) (.agg rc.toArray) (fun w1 hl => exec_load 63 (.tmp 6) rfl H 0 rfl rc _ (HRC.out w1 (L77.trans hl.1)) hue rfl (by rw [HRL.out]; exact info_edit)) ?_
        simp only [Act.put, List.setIfInBounds_toArray, List.set_cons_zero, List.set_cons_succ]
        refine wpG_calls (relSee ac bc) (by rfl) (by rfl) 46 #[.slice none 0 0, .agg rc.toArray] (by intro _; simp [go_sem]) (fun w1 hl => (HPC.out w1).mono fun e w' h => gives_see MC.out h) ?_
        rintro _ ⟨_, _, _, ⟨A7, c7, rfl, _⟩⟩
        simp only [Act.put, List.setIfInBounds_toArray, List.set_cons_zero, List.set_cons_succ]
        refine wpG_run (by rfl) (by rfl) (.string SC) (fun w1 hl => ?_) ?_
        · obtain ⟨A8, c8, h8, s8⟩ := hl.2 47 _ (by simp [Op.operands]) rfl (by intro h; cases h)
          cases h8
          exact exec_conv (.tmp 47) 44 9 rfl _ rfl _ (HVC.out w1 A7 c7 s8)
        simp only [Act.put, List.setIfInBounds_toArray, List.set_cons_zero, List.set_cons_succ]
        iterate 3 (refine wpG_quiet (by rfl) (by rfl) (by rfl) (fun K hK => ?_); go_big_quiet_op; refine hK _ ?_; clear hK K)
        refine wpG_run (by rfl) (by rfl) (.string SC) (fun w1 hl => exec_conv (.tmp 51) 44 9 rfl _ rfl _ (HUC.out w1 (L77.trans hl.1))) ?_
        simp only [Act.put, List.setIfInBounds_toArray, List.set_cons_zero, List.set_cons_succ]
        iterate 4 (refine wpG_quiet (by rfl) (by rfl) (by rfl) (fun K hK => ?_); go_big_quiet_op; refine hK _ ?_; clear hK K)
        refine wpG_nil (fun w8 l8 _ => ?_)
        clear hslSC
        have RG := (HBE.out _ l8).wholeC
        clear hs7
        go_wp2_with (first
          | (refine wpList_load_g (by rfl) 63 (.tmp 2) rfl w.heap.size 0 rfl ec _ RG hue rfl (by rw [HEL.out]; exact info_edit) ?_)
          | fail)
        refine (HKE.out _).mono ?_
        rintro e w9 ⟨rfl, b9⟩
        have l9 := l8.trans b9
        clear RG b9 l8
        cases pz
        · have RG := (HBE.out _ l9).wholeC
          go_wp2_with (first
            | (refine wpList_load_g (by rfl) 63 (.tmp 2) rfl w.heap.size 0 rfl ec _ RG hue rfl (by rw [HEL.out]; exact info_edit) ?_)
            | fail)
          refine (HPE.out _).mono ?_
          rintro e w10 ⟨A3, c3, rfl, o3, b3⟩
          rw [MK.out] at o3 ⊢
          have l10 := l9.trans b3
          have hs10 := HS7.out _ l10
          clear RG
          obtain ⟨hi, hz0, hz1, hz2⟩ := HI.out
          go_wp2_with (first
            | (at_builtin
               refine wpList_app _ rfl (.tmp 62) (.tmp 63) _ rfl w9.heap.size 5 i0 _ 1 Try.underlying44 hi hz0 hz1 hz2 rfl (.slice A3 kp c3) (bvs lp) kp rfl (by rw [bvs_length, MK.out]) o3 w10.heap.size A c (bvs l) n rfl (by rw [bvs_length, HNL.out]) hs10 (bvs_one _) (by simp [maxLen]; omega) (by omega) b3.size ?_
               intro A5 c5 w11 o5 b5 hg5 hat5)
            | fail)
          rw [← bvs_append] at o5
          have l11 : Le w7 w11 := l9.trans (b3.trans b5)
          have HLL : Hid ((lp ++ l).length = kp + n) := Lib.hid (by rw [List.length_append, MK.out, HNL.out])
          obtain ⟨lb, hlb2⟩ : ∃ lb, lb = lp ++ l := ⟨_, rfl⟩
          rw [← hlb2] at o5 HLL HRD
          clear hlb2 hs10 hi hz0 hz1 hz2 o3 hg5 hat5
          refine (rd_new A5 (kp + n) c5 lb w11 HLL.out o5.sees (by omega)).mono ?_
          rintro e w12 ⟨g, rfl, r6, b6⟩
          have l12 := l11.trans b6
          have hgb := r6.block
          have F1 := HRD.out (by trivial)
          have H5 := Lib.hid (fun wx (hx : Rd wx w11.heap.size g lb 0 0) => rd_edit w11.heap.size g lb 0 0 wx hx (Nat.zero_le _) (by rw [HLL.out]; omega))
          rw [F1] at H5
          simp only at H5
          rw [Hcc.out] at H5
          have B12 := HBE.out _ l12
          have hwz := l11.size
          clear F1 HRD o5
          go_wp2_with fail
          refine (H5.out _ r6).mono ?_
          rintro e w13 ⟨rfl, R13, g13⟩
          replace B12 := B12.kept g13 (by simp; omega)
          have hb12 := HB7.out.trans (l12.mono HB7.out.size)
          have hb13 := below_row hb12 g13 (by omega)
          clear r6 H5 hb12 g13
          have d1 := Blk.new w13 zs 63
          have LE : Le w13 (w13.alloc (.cells zs.toArray 63)) := (Below.refl w13.heap.size w13).alloc (Nat.le_refl _) _
          have hgr3 := R13.block.2
          have hc3 := B12.lt
          have rA := R13.later LE
          have cA := B12.later LE
          have hbA := hb13.trans (LE.mono hb13.size)
          have hw13 := hb13.size
          have T1 := d1.there 0 29 (by rw [HZL.out]; omega)
          obtain ⟨H2, hH2⟩ : ∃ H, H = w13.heap.size := ⟨_, rfl⟩
          rw [← hH2] at d1 T1 hgr3 hc3 hw13
          have HH2 := Lib.hid hH2
          generalize hWB : w13.alloc (.cells zs.toArray 63) = WB at *
          have HWB := Lib.hid hWB
          clear hH2 hWB LE R13 B12 hb13
          go_wp2_with (first
            | (rw [← HZ.out]
               rw [HWB.out, ← HH2.out]
               refine wpList_store_mid rfl 63 (.tmp 9) (.tmp 67) rfl H2 0 ec.toArray rfl rfl (by simpa [HEL.out] using T1) (by simpa [HEL.out] using info_edit) OE ?_
               simp only [Act.put]
               have f1 := d1.wholeT (ds := ec) (by rw [HEL.out, HZL.out])
               have f2 := Blk.setsOther (b := H2) (g := w.heap.size) (by omega) ec 0 cA
               have fr := rA.other (grown_sets4 H2 ec 0 WB) (by omega)
               have fb := below_sets (B := w.heap.size) (b := H2) (by omega) ec 0 hbA
               generalize hwb : World.setCells WB H2 0 ec.toArray.toList = wc
               replace f1 : Blk wc H2 ec := hwb ▸ f1
               replace f2 : Blk wc w.heap.size ec := hwb ▸ f2
               replace fr : Rd wc w11.heap.size g lb kp 0 := hwb ▸ fr
               replace fb : Below w.heap.size w wc := hwb ▸ fb
               have RG1 := f1.wholeC
               have RG2 := f2.wholeC
               clear hwb d1 cA rA hbA T1)
            | fail)
          refine (rd_err w11.heap.size g lb kp 0 wc fr).mono ?_
          rintro e wd ⟨rfl, rfl⟩
          go_wp2_with (first
            | (refine wpList_load_g (by rfl) 63 (.tmp 9) rfl H2 0 rfl ec _ RG1 hue rfl (by rw [HEL.out]; exact info_edit) ?_)
            | (refine wpList_load_g (by rfl) 63 (.tmp 2) rfl w.heap.size 0 rfl ec _ RG2 hue rfl (by rw [HEL.out]; exact info_edit) ?_)
            | (refine wpList_exec (by rfl) (.bool true) (exec_eql 63 _ (.tmp 72) (.tmp 73) rfl _ _ rfl rfl guard_edit true (HSE.out _)) ?_)
            | fail)
          refine (rd_left w11.heap.size g lb kp 0 wc fr (by rw [HLL.out]; omega) (by rw [HLL.out]; omega)).mono ?_
          rintro e wd ⟨rfl, nk, rfl⟩
          rw [show ((lb.length : Nat) : Int) - (kp : Int) = (n : Int) from by rw [HLL.out]; omega]
          have hbD := below_drewN fb nk
          clear fr f1 f2 fb RG1 RG2
          go_wp2_with fail
          refine (edit_awake _).mono ?_
          rintro e we ⟨rfl, be⟩
          go_wp2_with fail
          go_ret
          exact ⟨rfl, hbD.trans (be.mono hbD.size)⟩
        · go_wp2_with fail
          refine (edit_awake _).mono ?_
          rintro e wz ⟨rfl, bz⟩
          go_wp2_with fail
          go_ret
          exact ⟨rfl, (HB7.out.trans (l9.mono HB7.out.size)).trans (bz.mono (HB7.out.trans (l9.mono HB7.out.size)).size)⟩
      · have tc : (eC == 0) = false := by simpa using ec0
        clear ec0
        go_wp2_with fail
        refine wp_region_steady [] 86 (by kernel_rfl) (by kernel_rfl) (by kernel_rfl) (by rfl) ?_
        iterate 8 (refine wpG_quiet (by rfl) (by rfl) (by rfl) (fun K hK => ?_); go_big_quiet_op; refine hK _ ?_; clear hK K)
        try simp only [c1n]
        iterate 2 (refine wpG_quiet (by rfl) (by rfl) (by rfl) (fun K hK => ?_); go_big_quiet_op; refine hK _ ?_; clear hK K)
        refine wpG_call (by rfl) (by rfl) 38 #[.pointer (some ⟨gr, 0, none⟩)] (.int .i64 eC) (by intro _; simp [go_sem]) (by kernel_rfl) (fun w1 hl => HEC.out w1 (L77.trans hl.1)) ?_
        simp only [Act.put, List.setIfInBounds_toArray, List.set_cons_zero, List.set_cons_succ]
        iterate 2 (refine wpG_quiet (by rfl) (by rfl) (by rfl) (fun K hK => ?_); go_big_quiet_op; refine hK _ ?_; clear hK K)
        iterate 13 (refine wpG_skip (by rfl) ?_; simp only [Act.put, List.setIfInBounds_toArray, List.set_cons_zero, List.set_cons_succ])
        iterate 2 (refine wpG_quiet (by rfl) (by rfl) (by rfl) (fun K hK => ?_); go_big_quiet_op; refine hK _ ?_; clear hK K)
        refine wpG_nil (fun w8 l8 _ => ?_)
        have RG := (HBE.out _ l8).wholeC
        clear hs7
        go_wp2_with (first
          | (refine wpList_load_g (by rfl) 63 (.tmp 2) rfl w.heap.size 0 rfl ec _ RG hue rfl (by rw [HEL.out]; exact info_edit) ?_)
          | fail)
        refine (HKE.out _).mono ?_
        rintro e w9 ⟨rfl, b9⟩
        have l9 := l8.trans b9
        clear RG b9 l8
        cases pz
        · have RG := (HBE.out _ l9).wholeC
          go_wp2_with (first
            | (refine wpList_load_g (by rfl) 63 (.tmp 2) rfl w.heap.size 0 rfl ec _ RG hue rfl (by rw [HEL.out]; exact info_edit) ?_)
            | fail)
          refine (HPE.out _).mono ?_
          rintro e w10 ⟨A3, c3, rfl, o3, b3⟩
          rw [MK.out] at o3 ⊢
          have l10 := l9.trans b3
          have hs10 := HS7.out _ l10
          clear RG
          obtain ⟨hi, hz0, hz1, hz2⟩ := HI.out
          go_wp2_with (first
            | (at_builtin
               refine wpList_app _ rfl (.tmp 62) (.tmp 63) _ rfl w9.heap.size 5 i0 _ 1 Try.underlying44 hi hz0 hz1 hz2 rfl (.slice A3 kp c3) (bvs lp) kp rfl (by rw [bvs_length, MK.out]) o3 w10.heap.size A c (bvs l) n rfl (by rw [bvs_length, HNL.out]) hs10 (bvs_one _) (by simp [maxLen]; omega) (by omega) b3.size ?_
               intro A5 c5 w11 o5 b5 hg5 hat5)
            | fail)
          rw [← bvs_append] at o5
          have l11 : Le w7 w11 := l9.trans (b3.trans b5)
          have HLL : Hid ((lp ++ l).length = kp + n) := Lib.hid (by rw [List.length_append, MK.out, HNL.out])
          obtain ⟨lb, hlb2⟩ : ∃ lb, lb = lp ++ l := ⟨_, rfl⟩
          rw [← hlb2] at o5 HLL HRD
          clear hlb2 hs10 hi hz0 hz1 hz2 o3 hg5 hat5
          refine (rd_new A5 (kp + n) c5 lb w11 HLL.out o5.sees (by omega)).mono ?_
          rintro e w12 ⟨g, rfl, r6, b6⟩
          have l12 := l11.trans b6
          have hgb := r6.block
          have F1 := HRD.out (by trivial)
          have H5 := Lib.hid (fun wx (hx : Rd wx w11.heap.size g lb 0 0) => rd_edit w11.heap.size g lb 0 0 wx hx (Nat.zero_le _) (by rw [HLL.out]; omega))
          rw [F1] at H5
          simp only at H5
          rw [Hcc.out] at H5
          have B12 := HBE.out _ l12
          have hwz := l11.size
          clear F1 HRD o5
          go_wp2_with fail
          refine (H5.out _ r6).mono ?_
          rintro e w13 ⟨rfl, R13, g13⟩
          replace B12 := B12.kept g13 (by simp; omega)
          have hb12 := HB7.out.trans (l12.mono HB7.out.size)
          have hb13 := below_row hb12 g13 (by omega)
          clear r6 H5 hb12 g13
          have d1 := Blk.new w13 zs 63
          have LE : Le w13 (w13.alloc (.cells zs.toArray 63)) := (Below.refl w13.heap.size w13).alloc (Nat.le_refl _) _
          have hgr3 := R13.block.2
          have hc3 := B12.lt
          have rA := R13.later LE
          have cA := B12.later LE
          have hbA := hb13.trans (LE.mono hb13.size)
          have hw13 := hb13.size
          have T1 := d1.there 0 29 (by rw [HZL.out]; omega)
          obtain ⟨H2, hH2⟩ : ∃ H, H = w13.heap.size := ⟨_, rfl⟩
          rw [← hH2] at d1 T1 hgr3 hc3 hw13
          have HH2 := Lib.hid hH2
          generalize hWB : w13.alloc (.cells zs.toArray 63) = WB at *
          have HWB := Lib.hid hWB
          clear hH2 hWB LE R13 B12 hb13
          go_wp2_with (first
            | (rw [← HZ.out]
               rw [HWB.out, ← HH2.out]
               refine wpList_store_mid rfl 63 (.tmp 9) (.tmp 67) rfl H2 0 ec.toArray rfl rfl (by simpa [HEL.out] using T1) (by simpa [HEL.out] using info_edit) OE ?_
               simp only [Act.put]
               have f1 := d1.wholeT (ds := ec) (by rw [HEL.out, HZL.out])
               have f2 := Blk.setsOther (b := H2) (g := w.heap.size) (by omega) ec 0 cA
               have fr := rA.other (grown_sets4 H2 ec 0 WB) (by omega)
               have fb := below_sets (B := w.heap.size) (b := H2) (by omega) ec 0 hbA
               generalize hwb : World.setCells WB H2 0 ec.toArray.toList = wc
               replace f1 : Blk wc H2 ec := hwb ▸ f1
               replace f2 : Blk wc w.heap.size ec := hwb ▸ f2
               replace fr : Rd wc w11.heap.size g lb kp 0 := hwb ▸ fr
               replace fb : Below w.heap.size w wc := hwb ▸ fb
               have RG1 := f1.wholeC
               have RG2 := f2.wholeC
               clear hwb d1 cA rA hbA T1)
            | fail)
          refine (rd_err w11.heap.size g lb kp 0 wc fr).mono ?_
          rintro e wd ⟨rfl, rfl⟩
          go_wp2_with (first
            | (refine wpList_load_g (by rfl) 63 (.tmp 9) rfl H2 0 rfl ec _ RG1 hue rfl (by rw [HEL.out]; exact info_edit) ?_)
            | (refine wpList_load_g (by rfl) 63 (.tmp 2) rfl w.heap.size 0 rfl ec _ RG2 hue rfl (by rw [HEL.out]; exact info_edit) ?_)
            | (refine wpList_exec (by rfl) (.bool true) (exec_eql 63 _ (.tmp 72) (.tmp 73) rfl _ _ rfl rfl guard_edit true (HSE.out _)) ?_)
            | fail)
          refine (rd_left w11.heap.size g lb kp 0 wc fr (by rw [HLL.out]; omega) (by rw [HLL.out]; omega)).mono ?_
          rintro e wd ⟨rfl, nk, rfl⟩
          rw [show ((lb.length : Nat) : Int) - (kp : Int) = (n : Int) from by rw [HLL.out]; omega]
          have hbD := below_drewN fb nk
          clear fr f1 f2 fb RG1 RG2
          go_wp2_with fail
          refine (edit_awake _).mono ?_
          rintro e we ⟨rfl, be⟩
          go_wp2_with fail
          go_ret
          exact ⟨rfl, hbD.trans (be.mono hbD.size)⟩
        · go_wp2_with fail
          refine (edit_awake _).mono ?_
          rintro e wz ⟨rfl, bz⟩
          go_wp2_with fail
          go_ret
          exact ⟨rfl, (HB7.out.trans (l9.mono HB7.out.size)).trans (bz.mono (HB7.out.trans (l9.mono HB7.out.size)).size)⟩
    · have d5 : decide ((500 : Int) < (n : Int)) = true := by simp; omega
      clear C0
      go_wp2_with fail
      refine (edit_awake _).mono ?_
      rintro e wz ⟨rfl, bz⟩
      go_wp2_with fail
      go_ret
      exact ⟨rfl, hb1.trans (bz.mono hb1.size)⟩
  · clear C0
    go_wp2_with fail
    refine (edit_awake _).mono ?_
    rintro e wz ⟨rfl, bz⟩
    go_wp2_with fail
    go_ret
    exact ⟨rfl, hb1.trans (bz.mono hb1.size)⟩
end Go.Proofs.Ytgpbglmlakildaa
