/- Ledger: the chapter's example. -/
import Derived.Test.YtadmaalhhigbeaaW31
import Derived.Test.YtadmaalhhigbeaaW32
namespace Go.Proofs.Ytadmaalhhigbeaa
set_option linter.unusedVariables false
set_option linter.unusedSimpArgs false
open Go Go.RowKit ValM

theorem below_grown {w w' : World} {r : Option Nat} {B : Nat} (h : w.grownBy w' r) (hB : B ≤ w.heap.size) (hr : ∀ k, r = some k → B ≤ k) : Below B w w' :=
  ⟨h.os, h.tape, h.output, h.size, fun k hk => h.block k (by omega) (fun e => by have := hr k e.symm; omega)⟩
def lgEx : Rp := ⟨4, 0, 3, 0, 0, 0, 9, 0, none, 0, 0, [], 0#32⟩
theorem lgEx_ok (w : World) : okRp w lgEx := ⟨rfl, Nat.le_refl _, by simp [lgEx, maxLen], Sees.nil_⟩
theorem lgEx_may : rok lgEx := by unfold rok lgEx; simp
theorem lgEx_new : acod zrs lgEx.dv lgEx.rq = 0 := by simp [acod, zrs, lgEx, zrp]
theorem lgEx_asks (r : Rp) (h : rab r = rab lgEx) : (acod (zrs.set (lgEx.dv.toNat) r) 0 2 = 13) ∧ (acod (zrs.set (lgEx.dv.toNat) r) 0 3 = 7 ∧ ares (zrs.set (lgEx.dv.toNat) r) 0 3 = rab lgEx) ∧ acod (zrs.set (lgEx.dv.toNat) r) 0 4 = 0 := by
  have h3 : r.rq = 3 := rab_rq h
  have e : (zrs.set (lgEx.dv.toNat) r).getD (0 : Int).toNat zrp = r := rfl
  have a3 : acod (zrs.set (lgEx.dv.toNat) r) 0 3 = 7 := by unfold acod; rw [e, h3]; simp
  refine ⟨by unfold acod; rw [e, h3]; simp, ⟨a3, by unfold ares; rw [if_pos a3, e, h]⟩, by unfold acod; rw [e, h3]; simp⟩

set_option maxRecDepth 100000 in
set_option maxHeartbeats 3200000 in
theorem lg_awake (w : World) : Calls Try.prog 8 #[] w fun e w' => e = .returned (.bool true) ∧ Below w.heap.size w w' := by
  have hu := Try.underlying26
  go_enter Try.func8, Try.ntmps8
  go_wp2_with fail
  refine (lgnew_any _).mono ?_
  rintro e w1 ⟨g, rfl, h1, hg1, hb1⟩
  have hl := below_a1 w1 (.cells #[.int .i64 4, .int .i64 0, .int .i64 3, .int .i64 0, .int .i64 0, .int .i64 0, .int .i64 9, .int .i64 0, .slice none 0 0, .int .u32 0] 26)
  have HN := Lib.hid (lgnote_yes g zes zrs lgEx _ (h1.later hl) (lgEx_ok _) (by simp [lgEx]) lgEx_new lgEx_may)
  have KA : Blk (w1.alloc (.cells #[.int .i64 4, .int .i64 0, .int .i64 3, .int .i64 0, .int .i64 0, .int .i64 0, .int .i64 9, .int .i64 0, .slice none 0 0, .int .u32 0] 26)) w1.heap.size [.int .i64 4, .int .i64 0, .int .i64 3, .int .i64 0, .int .i64 0, .int .i64 0, .int .i64 9, .int .i64 0, .slice none 0 0, .int .u32 0] := Blk.new w1 [.int .i64 4, .int .i64 0, .int .i64 3, .int .i64 0, .int .i64 0, .int .i64 0, .int .i64 9, .int .i64 0, .slice none 0 0, .int .u32 0] 26
  have hgl := h1.lt
  have HBB := Lib.hid (hb1.trans (hl.mono hb1.size))
  have HKA := Lib.hid KA
  clear h1 hb1 hl KA
  go_wp2_with fail
  refine HN.out.mono ?_
  rintro e w3 ⟨rfl, ⟨r3, hr3, h3, _⟩, hg3⟩
  have HKA3 := Lib.hid (HKA.out.kept hg3 (by intro e; injection e with e; omega))
  have HB3 := Lib.hid (HBB.out.trans (below_grown hg3 HBB.out.size (fun k e => by injection e with e; omega)))
  obtain ⟨q1, ⟨q2, q3⟩, q4⟩ := lgEx_asks r3 hr3
  obtain ⟨rs3, hrs3⟩ : ∃ rs3, rs3 = zrs.set lgEx.dv.toNat r3 := ⟨_, rfl⟩
  rw [← hrs3] at h3 q1 q2 q3 q4
  have HG3 := Lib.hid h3
  have HA1 := Lib.hid (lask_any g zes rs3 0 2 w3 h3)
  rw [q1] at HA1
  clear hg3 hr3 hrs3 h3 HN HKA HBB
  go_wp2_with fail
  refine HA1.out.mono ?_
  rintro e w4 ⟨r4, rfl, hok4, hab4, hfar4, hn4, hb4⟩
  have hbb := HB3.out.trans (hb4.mono HB3.out.size)
  obtain ⟨TH4, HN4, HBN4⟩ := new_rp w.heap.size w w4 (rpc r4) (rpc_len r4) hbb hbb.size
  have hb2 := hb4.trans (HBN4.mono hb4.size)
  have HB5 := Lib.hid (hbb.trans (HBN4.mono hbb.size))
  have HG5 := Lib.hid (HG3.out.later hb2)
  have HKA5 := Lib.hid (HKA3.out.later hb2)
  have hone4 := all_oneCell_toArray (rpc_one r4)
  have HL4 := Lib.hid (rpc_len r4)
  generalize rpc r4 = cr4 at *
  obtain ⟨W5, hW5⟩ : ∃ W5, W5 = (w4.alloc (.cells #[.int .i64 0, .int .i64 0, .int .i64 0, .int .i64 0, .int .i64 0, .int .i64 0, .int .i64 0, .int .i64 0, .slice none 0 0, .int .u32 0] 26)).setCells w4.heap.size 0 cr4 := ⟨_, rfl⟩
  rw [← hW5] at HB5 HG5 HKA5
  have HW5 := Lib.hid hW5
  clear hok4 hab4 hfar4 hn4 hb4 hbb HN4 HBN4 hW5 hb2 HB3 HG3 HKA3
  have HA2 := Lib.hid (lask_any g zes rs3 0 3 W5 HG5.out)
  rw [q2, q3] at HA2
  go_wp2_with (first
    | (refine wpList_store_mid rfl 26 (.tmp 4) (.tmp 18) rfl w4.heap.size 0 cr4.toArray rfl rfl (by simpa [HL4.out] using TH4) (by simpa [HL4.out] using info_rp) hone4 ?_
       rw [← HW5.out])
    | fail)
  refine HA2.out.mono ?_
  rintro e w6 ⟨r6, rfl, hok6, hab6, hfar6, hn6, hb6⟩
  have hbb := HB5.out.trans (hb6.mono HB5.out.size)
  obtain ⟨TH6, HN6, HBN6⟩ := new_rp w.heap.size w w6 (rpc r6) (rpc_len r6) hbb hbb.size
  have hb2 := hb6.trans (HBN6.mono hb6.size)
  have HB7 := Lib.hid (hbb.trans (HBN6.mono hbb.size))
  have HG7 := Lib.hid (HG5.out.later hb2)
  have HKA7 := Lib.hid (HKA5.out.later hb2)
  have HK6 := Lib.hid HN6
  have HSAME : Hid (∀ W, Below ((w6.alloc (.cells #[.int .i64 0, .int .i64 0, .int .i64 0, .int .i64 0, .int .i64 0, .int .i64 0, .int .i64 0, .int .i64 0, .slice none 0 0, .int .u32 0] 26)).setCells w6.heap.size 0 (rpc r6)).heap.size ((w6.alloc (.cells #[.int .i64 0, .int .i64 0, .int .i64 0, .int .i64 0, .int .i64 0, .int .i64 0, .int .i64 0, .int .i64 0, .slice none 0 0, .int .u32 0] 26)).setCells w6.heap.size 0 (rpc r6)) W → Calls Try.prog 14 #[.agg (rpc r6).toArray, .agg #[.int .i64 4, .int .i64 0, .int .i64 3, .int .i64 0, .int .i64 0, .int .i64 0, .int .i64 9, .int .i64 0, .slice none 0 0, .int .u32 0]] W fun e w' => e = .returned (.bool true) ∧ Below W.heap.size W w') := Lib.hid (fun W hW => by
    have := rlsame_any r6 lgEx W ((hok6.later HBN6).later hW) (lgEx_ok W) hn6
    rw [decide_eq_true hab6] at this
    exact this)
  have hone6 := all_oneCell_toArray (rpc_one r6)
  have HL6 := Lib.hid (rpc_len r6)
  generalize rpc r6 = cr6 at *
  obtain ⟨W7, hW7⟩ : ∃ W7, W7 = (w6.alloc (.cells #[.int .i64 0, .int .i64 0, .int .i64 0, .int .i64 0, .int .i64 0, .int .i64 0, .int .i64 0, .int .i64 0, .slice none 0 0, .int .u32 0] 26)).setCells w6.heap.size 0 cr6 := ⟨_, rfl⟩
  rw [← hW7] at HB7 HG7 HKA7 HK6 HSAME
  have HW7 := Lib.hid hW7
  clear hok6 hab6 hfar6 hn6 hb6 hbb HN6 HBN6 hW7 hb2 HB5 HG5 HKA5
  have HA3 := Lib.hid (lask_any g zes rs3 0 4 W7 HG7.out)
  rw [q4] at HA3
  clear q1 q2 q3 q4
  go_wp2_with (first
    | (refine wpList_store_mid rfl 26 (.tmp 6) (.tmp 23) rfl w6.heap.size 0 cr6.toArray rfl rfl (by simpa [HL6.out] using TH6) (by simpa [HL6.out] using info_rp) hone6 ?_
       rw [← HW7.out])
    | fail)
  refine HA3.out.mono ?_
  rintro e w8 ⟨r8, rfl, hok8, hab8, hfar8, hn8, hb8⟩
  have hbb := HB7.out.trans (hb8.mono HB7.out.size)
  obtain ⟨TH8, HN8, HBN8⟩ := new_rp w.heap.size w w8 (rpc r8) (rpc_len r8) hbb hbb.size
  have hb2 := hb8.trans (HBN8.mono hb8.size)
  have HB9 := Lib.hid (hbb.trans (HBN8.mono hbb.size))
  have HG9 := Lib.hid (HG7.out.later hb2)
  have HKA9 := Lib.hid (HKA7.out.later hb2)
  have HK6 := Lib.hid (HK6.out.later hb2)
  have HSAME := Lib.hid (fun W hW => HSAME.out W (hb2.trans (Below.mono hW hb2.size)))
  have hone8 := all_oneCell_toArray (rpc_one r8)
  have HL8 := Lib.hid (rpc_len r8)
  generalize rpc r8 = cr8 at *
  obtain ⟨W9, hW9⟩ : ∃ W9, W9 = (w8.alloc (.cells #[.int .i64 0, .int .i64 0, .int .i64 0, .int .i64 0, .int .i64 0, .int .i64 0, .int .i64 0, .int .i64 0, .slice none 0 0, .int .u32 0] 26)).setCells w8.heap.size 0 cr8 := ⟨_, rfl⟩
  rw [← hW9] at HB9 HG9 HKA9 HK6 HSAME
  have HW9 := Lib.hid hW9
  clear hok8 hab8 hfar8 hn8 hb8 hbb HN8 HBN8 hW9 hb2 HB7 HG7 HKA7
  go_wp2_with (first
    | (refine wpList_store_mid rfl 26 (.tmp 8) (.tmp 28) rfl w8.heap.size 0 cr8.toArray rfl rfl (by simpa [HL8.out] using TH8) (by simpa [HL8.out] using info_rp) hone8 ?_
       rw [← HW9.out]
       have R6 := HK6.out.range 0 cr6 (by rw [List.drop_zero, List.take_length])
       have RA := HKA9.out.range 0 [.int .i64 4, .int .i64 0, .int .i64 3, .int .i64 0, .int .i64 0, .int .i64 0, .int .i64 9, .int .i64 0, .slice none 0 0, .int .u32 0] rfl)
    | (refine wpList_load_g (by rfl) 26 (.tmp 6) rfl w6.heap.size 0 rfl cr6 _ R6 hu rfl (by simpa [HL6.out] using info_rp) ?_
       simp only [Act.put, List.setIfInBounds_toArray, List.set_cons_zero, List.set_cons_succ])
    | (refine wpList_load_g (by rfl) 26 (.tmp 2) rfl w1.heap.size 0 rfl [.int .i64 4, .int .i64 0, .int .i64 3, .int .i64 0, .int .i64 0, .int .i64 0, .int .i64 9, .int .i64 0, .slice none 0 0, .int .u32 0] _ RA hu rfl info_rp ?_
       simp only [Act.put, List.setIfInBounds_toArray, List.set_cons_zero, List.set_cons_succ])
    | fail)
  refine (HSAME.out W9 (Below.refl _ _)).mono ?_
  rintro e wa ⟨rfl, hba⟩
  have HBA := Lib.hid (HB9.out.trans (hba.mono HB9.out.size))
  clear hba
  go_wp2_with fail
  go_ret
  exact ⟨rfl, HBA.out⟩
end Go.Proofs.Ytadmaalhhigbeaa
