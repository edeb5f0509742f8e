/- value.Read of a text that is no value's. -/
import Derived.Test.YtgdidamjgaegkaaDoorQuoK
import Derived.Test.YtgdidamjgaegkaaDoorQuoE
namespace Go.Proofs.YtgdidamjgaegkaaDoor
set_option linter.unusedVariables false
open Go Go.RowKit BitM MskM ValM

/-- No value has this text. -/
def NoVal (t : ByteArray) : Prop := ∀ a : V3, vchk a = true → vshow a ≠ t.data.toList
theorem not_show {t : ByteArray} (v : V3) (h : NoVal t) (hne : t.data.toList ≠ []) : ((str (vshow v)).toList != t.toList) = true := by
  have e1 : ∀ l : List UInt8, (str l).toList = l := fun l => by rw [ByteArray.toList_eq]; rfl
  rw [e1, ByteArray.toList_eq, bne_iff_ne]
  cases hc : vchk v
  · have : vshow v = [] := by unfold vshow; rw [if_pos hc]
    rw [this]
    exact fun e => hne e.symm
  · exact h v hc

set_option maxRecDepth 100000 in
set_option maxHeartbeats 3200000 in
theorem vread_no (t : ByteArray) (w : World) (hx : t.size ≤ 1000) (ht : Tab w) (hn : NoVal t) : Calls Tryd.prog 45 #[.string t] w fun e w' => e = .returned (.tuple #[.agg (vcells zval).toArray, .bool false]) ∧ Below w.heap.size w w' := by
  have HNV := Lib.hid hn
  have HTB := Lib.hid ht
  have hu := Tryd.underlying43
  have hsz : t.data.toList.length = t.size := by simp
  have HUQ := Lib.hid (fun (wx : World) => unquote_some t wx hx)
  have HIN := Lib.hid (fun wx : World => (show Calls Tryd.prog 26 #[.string t, .int .i64 1099511627776] wx fun e w' => e = .returned (.tuple #[.int .i64 (pint t.data.toList 1099511627776).1, .bool (pint t.data.toList 1099511627776).2]) ∧ Below wx.heap.size wx w' from
    (int_any t 1099511627776 wx).mono fun e w' h => ⟨h.1, h.2 ▸ Below.refl _ _⟩))
  obtain ⟨W, hW, B0, B1, hb⟩ := two_news w
  subst hW
  by_cases h0 : t.data.toList = []
  · have n1 : t.toList.isEmpty = true := by rw [ByteArray.toList_eq, h0]; rfl
    have n1b : t.toList = [] := by rw [ByteArray.toList_eq, h0]
    have z0 : t.size = 0 := by rw [← hsz, h0]; rfl
    clear hsz ht hn h0
    go_enter Tryd.func45, Tryd.ntmps45
    have HOZ : (vcells zval).toArray.all (·.oneCell') = true := all_oneCell_toArray (by intro v hv; simp only [vcells, List.mem_cons, List.not_mem_nil, or_false] at hv; rcases hv with rfl | rfl | rfl <;> rfl)
    have T0 := B0.there 0 3 (Nat.le_refl _)
    have R1 := B1.valR
    have F0 := B0.whole (ds := vcells zval) rfl
    have FB := below_sets (B := w.heap.size) (b := w.heap.size) (Nat.le_refl _) (vcells zval) 0 hb
    clear B0 B1 hb
    go_wp2_with (first
      | (refine wpList_load_mid rfl 43 (.tmp 4) rfl (w.heap.size + 1) 0 rfl (vcells zval) _ R1 hu rfl info_val ?_)
      | (refine wpList_store_mid rfl 43 (.tmp 2) (.tmp 25) rfl w.heap.size 0 (vcells zval).toArray rfl rfl T0 info_val HOZ ?_
         simp only [Act.put]
         generalize hw6 : World.setCells _ w.heap.size 0 (vcells zval).toArray.toList = w6
         have F1 : Blk w6 w.heap.size (vcells zval) := hw6 ▸ F0
         have FB1 : Below w.heap.size w w6 := hw6 ▸ FB
         clear hw6 T0 R1 F0 FB)
      | fail)
    exact bodyPost_ret (v := .tuple #[.agg (vcells zval).toArray, .bool false]) (results_blk_tmp (p := 3) (q := 2) rfl _ _ w.heap.size (vcells zval) _ _ rfl rfl F1 hu rfl info_val) rfl ⟨rfl, FB1⟩
  · have hne := h0
    have n1 : t.toList.isEmpty = false := by rw [ByteArray.toList_eq, List.isEmpty_eq_false_iff]; exact h0
    have n1b : ¬ t.toList = [] := by rw [ByteArray.toList_eq]; exact h0
    have hpos : 0 < t.size := by
      rw [← hsz]; exact List.length_pos_iff.2 h0
    have n2b : ¬ t.toList = [45] := by
      rw [ByteArray.toList_eq]
      intro e
      exact hn zval (by decide +kernel) (by rw [e]; decide +kernel)
    have n2 : (t.toList == [45]) = false := by rw [beq_eq_false_iff_ne]; exact n2b
    have HNE := Lib.hid hne
    clear hsz ht hn h0 hne
    by_cases h98 : t.size ≤ 98
    · by_cases h34 : t[0] = 34
      · have n0 : ((t[0].toNat : Int) == 34) = true := by rw [h34]; rfl
        clear h34
        go_enter Tryd.func45, Tryd.ntmps45
        go_wp2_with fail
        refine (HUQ.out _).mono ?_
        rintro e w1 ⟨⟨p, rfl⟩, hb1⟩
        replace B0 := B0.later hb1
        replace B1 := B1.later hb1
        replace hb := hb.trans (hb1.mono hb.size)
        clear hb1
        have hne := HNE.out
        have HSH := Lib.hid (fun (wx : World) (hb : Below w.heap.size w wx) => (show Calls Tryd.prog 49 #[.agg (vcells (2, 0, p)).toArray] wx fun e w' => e = .returned (.string (str (vshow (2, 0, p)))) ∧ Below wx.heap.size wx w' from vshow_any (2, 0, p) wx (HTB.out.later hb)))
        have hneq := not_show (2, 0, p) HNV.out hne
        obtain ⟨su, hsu⟩ : ∃ su, su = str (vshow (2, 0, p)) := ⟨_, rfl⟩
        rw [← hsu] at HSH hneq
        have hneq2 : (su.toList == t.toList) = false := by simpa using hneq
        clear hsu
        clear hne
        have HO : (vcells (2, 0, p)).toArray.all (·.oneCell') = true := all_oneCell_toArray (by intro v hv; simp only [vcells, List.mem_cons, List.not_mem_nil, or_false] at hv; rcases hv with rfl | rfl | rfl <;> rfl)
        have HOZ : (vcells zval).toArray.all (·.oneCell') = true := all_oneCell_toArray (by intro v hv; simp only [vcells, List.mem_cons, List.not_mem_nil, or_false] at hv; rcases hv with rfl | rfl | rfl <;> rfl)
        have T1 := B1.there 0 3 (Nat.le_refl _)
        have S1 := B1.whole (ds := vcells (2, 0, p)) rfl
        have S0 := Blk.setsOther (b := w.heap.size + 1) (by omega) (vcells (2, 0, p)) 0 B0
        have EB := below_sets (B := w.heap.size) (b := w.heap.size + 1) (by omega) (vcells (2, 0, p)) 0 hb
        clear B0 B1 hb
        go_wp2_with (first
          | (refine wpList_store_mid rfl 43 (.tmp 4) (.tmp 36) rfl (w.heap.size + 1) 0 (vcells (2, 0, p)).toArray rfl rfl T1 info_val HO ?_
             simp only [Act.put]
             generalize hw4 : World.setCells w1 (w.heap.size + 1) 0 (vcells (2, 0, p)).toArray.toList = w4
             have e4 : World.setCells w1 (w.heap.size + 1) 0 (vcells (2, 0, p)) = w4 := hw4
             rw [e4] at S0 S1 EB
             clear hw4 e4 T1
             have R1 := S1.valR)
          | (refine wpList_load_mid rfl 43 (.tmp 4) rfl (w.heap.size + 1) 0 rfl (vcells (2, 0, p)) _ R1 hu rfl info_val ?_)
          | fail)
        refine (HSH.out _ EB).mono ?_
        rintro e w5 ⟨rfl, hb5⟩
        replace S0 := S0.later hb5
        replace S1 := S1.later hb5
        replace EB := EB.trans (hb5.mono EB.size)
        have T0 := S0.there 0 3 (Nat.le_refl _)
        replace R1 := S1.valR
        have F0 := S0.whole (ds := vcells zval) rfl
        have FB := below_sets (B := w.heap.size) (b := w.heap.size) (Nat.le_refl _) (vcells zval) 0 EB
        clear hb5 S0 S1 EB
        go_wp2_with (first
          | (refine wpList_store_mid rfl 43 (.tmp 2) (.tmp 41) rfl w.heap.size 0 (vcells zval).toArray rfl rfl T0 info_val HOZ ?_
             simp only [Act.put]
             generalize hw6 : World.setCells w5 w.heap.size 0 (vcells zval).toArray.toList = w6
             have e6 : World.setCells w5 w.heap.size 0 (vcells zval) = w6 := hw6
             rw [e6] at F0 FB
             clear hw6 e6 T0 R1)
          | fail)
        exact bodyPost_ret (v := .tuple #[.agg (vcells zval).toArray, .bool false]) (results_blk_tmp (p := 3) (q := 2) rfl _ _ w.heap.size (vcells zval) _ _ rfl rfl F0 hu rfl info_val) rfl ⟨rfl, FB⟩
      · have n0 : ((t[0].toNat : Int) == 34) = false := by
          rw [beq_eq_false_iff_ne]; intro e; exact h34 (UInt8.toNat_inj.1 (Int.ofNat_inj.1 e))
        clear h34
        obtain ⟨q, hq⟩ : ∃ q, q = pint t.data.toList 1099511627776 := ⟨_, rfl⟩
        rw [← hq] at HIN
        clear hq
        obtain ⟨n, ok⟩ := q
        simp only at HIN
        cases ok
        · go_enter Tryd.func45, Tryd.ntmps45
          go_wp2_with fail
          refine (HIN.out _).mono ?_
          rintro e w1 ⟨rfl, hb1⟩
          replace B0 := B0.later hb1
          replace B1 := B1.later hb1
          replace hb := hb.trans (hb1.mono hb.size)
          clear hb1
          have HOZ : (vcells zval).toArray.all (·.oneCell') = true := all_oneCell_toArray (by intro v hv; simp only [vcells, List.mem_cons, List.not_mem_nil, or_false] at hv; rcases hv with rfl | rfl | rfl <;> rfl)
          have T0 := B0.there 0 3 (Nat.le_refl _)
          have R1 := B1.valR
          have F0 := B0.whole (ds := vcells zval) rfl
          have FB := below_sets (B := w.heap.size) (b := w.heap.size) (Nat.le_refl _) (vcells zval) 0 hb
          clear B0 B1 hb
          go_wp2_with (first
            | (refine wpList_load_mid rfl 43 (.tmp 4) rfl (w.heap.size + 1) 0 rfl (vcells zval) _ R1 hu rfl info_val ?_)
            | (refine wpList_store_mid rfl 43 (.tmp 2) (.tmp 14) rfl w.heap.size 0 (vcells zval).toArray rfl rfl T0 info_val HOZ ?_
               simp only [Act.put]
               generalize hw6 : World.setCells _ w.heap.size 0 (vcells zval).toArray.toList = w6
               have F1 : Blk w6 w.heap.size (vcells zval) := hw6 ▸ F0
               have FB1 : Below w.heap.size w w6 := hw6 ▸ FB
               clear hw6 T0 R1 F0 FB)
            | fail)
          exact bodyPost_ret (v := .tuple #[.agg (vcells zval).toArray, .bool false]) (results_blk_tmp (p := 3) (q := 2) rfl _ _ w.heap.size (vcells zval) _ _ rfl rfl F1 hu rfl info_val) rfl ⟨rfl, FB1⟩
        · go_enter Tryd.func45, Tryd.ntmps45
          go_wp2_with fail
          refine (HIN.out _).mono ?_
          rintro e w1 ⟨rfl, hb1⟩
          replace B0 := B0.later hb1
          replace B1 := B1.later hb1
          replace hb := hb.trans (hb1.mono hb.size)
          clear hb1
          have hne := HNE.out
          have HSH := Lib.hid (fun (wx : World) (hb : Below w.heap.size w wx) => (show Calls Tryd.prog 49 #[.agg (vcells (1, n, empty)).toArray] wx fun e w' => e = .returned (.string (str (vshow (1, n, empty)))) ∧ Below wx.heap.size wx w' from vshow_any (1, n, empty) wx (HTB.out.later hb)))
          have hneq := not_show (1, n, empty) HNV.out hne
          obtain ⟨su, hsu⟩ : ∃ su, su = str (vshow (1, n, empty)) := ⟨_, rfl⟩
          rw [← hsu] at HSH hneq
          have hneq2 : (su.toList == t.toList) = false := by simpa using hneq
          clear hsu
          clear hne
          have HO : (vcells (1, n, empty)).toArray.all (·.oneCell') = true := all_oneCell_toArray (by intro v hv; simp only [vcells, List.mem_cons, List.not_mem_nil, or_false] at hv; rcases hv with rfl | rfl | rfl <;> rfl)
          have HOZ : (vcells zval).toArray.all (·.oneCell') = true := all_oneCell_toArray (by intro v hv; simp only [vcells, List.mem_cons, List.not_mem_nil, or_false] at hv; rcases hv with rfl | rfl | rfl <;> rfl)
          have T1 := B1.there 0 3 (Nat.le_refl _)
          have S1 := B1.whole (ds := vcells (1, n, empty)) rfl
          have S0 := Blk.setsOther (b := w.heap.size + 1) (by omega) (vcells (1, n, empty)) 0 B0
          have EB := below_sets (B := w.heap.size) (b := w.heap.size + 1) (by omega) (vcells (1, n, empty)) 0 hb
          clear B0 B1 hb
          go_wp2_with (first
            | (refine wpList_store_mid rfl 43 (.tmp 4) (.tmp 16) rfl (w.heap.size + 1) 0 (vcells (1, n, empty)).toArray rfl rfl T1 info_val HO ?_
               simp only [Act.put]
               generalize hw4 : World.setCells w1 (w.heap.size + 1) 0 (vcells (1, n, empty)).toArray.toList = w4
               have e4 : World.setCells w1 (w.heap.size + 1) 0 (vcells (1, n, empty)) = w4 := hw4
               rw [e4] at S0 S1 EB
               clear hw4 e4 T1
               have R1 := S1.valR)
            | (refine wpList_load_mid rfl 43 (.tmp 4) rfl (w.heap.size + 1) 0 rfl (vcells (1, n, empty)) _ R1 hu rfl info_val ?_)
            | fail)
          refine (HSH.out _ EB).mono ?_
          rintro e w5 ⟨rfl, hb5⟩
          replace S0 := S0.later hb5
          replace S1 := S1.later hb5
          replace EB := EB.trans (hb5.mono EB.size)
          have T0 := S0.there 0 3 (Nat.le_refl _)
          replace R1 := S1.valR
          have F0 := S0.whole (ds := vcells zval) rfl
          have FB := below_sets (B := w.heap.size) (b := w.heap.size) (Nat.le_refl _) (vcells zval) 0 EB
          clear hb5 S0 S1 EB
          go_wp2_with (first
            | (refine wpList_store_mid rfl 43 (.tmp 2) (.tmp 41) rfl w.heap.size 0 (vcells zval).toArray rfl rfl T0 info_val HOZ ?_
               simp only [Act.put]
               generalize hw6 : World.setCells w5 w.heap.size 0 (vcells zval).toArray.toList = w6
               have e6 : World.setCells w5 w.heap.size 0 (vcells zval) = w6 := hw6
               rw [e6] at F0 FB
               clear hw6 e6 T0 R1)
            | fail)
          exact bodyPost_ret (v := .tuple #[.agg (vcells zval).toArray, .bool false]) (results_blk_tmp (p := 3) (q := 2) rfl _ _ w.heap.size (vcells zval) _ _ rfl rfl F0 hu rfl info_val) rfl ⟨rfl, FB⟩
    · have h98i : (98 : Int) < (t.size : Int) := by omega
      go_enter Tryd.func45, Tryd.ntmps45
      have HOZ : (vcells zval).toArray.all (·.oneCell') = true := all_oneCell_toArray (by intro v hv; simp only [vcells, List.mem_cons, List.not_mem_nil, or_false] at hv; rcases hv with rfl | rfl | rfl <;> rfl)
      have T0 := B0.there 0 3 (Nat.le_refl _)
      have R1 := B1.valR
      have F0 := B0.whole (ds := vcells zval) rfl
      have FB := below_sets (B := w.heap.size) (b := w.heap.size) (Nat.le_refl _) (vcells zval) 0 hb
      clear B0 B1 hb
      go_wp2_with (first
        | (refine wpList_load_mid rfl 43 (.tmp 4) rfl (w.heap.size + 1) 0 rfl (vcells zval) _ R1 hu rfl info_val ?_)
        | (refine wpList_store_mid rfl 43 (.tmp 2) (.tmp 25) rfl w.heap.size 0 (vcells zval).toArray rfl rfl T0 info_val HOZ ?_
           simp only [Act.put]
           generalize hw6 : World.setCells _ w.heap.size 0 (vcells zval).toArray.toList = w6
           have F1 : Blk w6 w.heap.size (vcells zval) := hw6 ▸ F0
           have FB1 : Below w.heap.size w w6 := hw6 ▸ FB
           clear hw6 T0 R1 F0 FB)
        | fail)
      exact bodyPost_ret (v := .tuple #[.agg (vcells zval).toArray, .bool false]) (results_blk_tmp (p := 3) (q := 2) rfl _ _ w.heap.size (vcells zval) _ _ rfl rfl F1 hu rfl info_val) rfl ⟨rfl, FB1⟩
end Go.Proofs.YtgdidamjgaegkaaDoor
