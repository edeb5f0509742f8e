/- The document's Read: what it returns, by the way that it goes. -/
import Derived.Test.YtgdidamjgaegkaaDoorQuoL
import Derived.Test.YtgdidamjgaegkaaDoorQuoI
import Derived.Test.YtgdidamjgaegkaaDoorQuoJ
namespace Go.Proofs.YtgdidamjgaegkaaDoor
set_option linter.unusedVariables false
open Go Go.RowKit BitM MskM ValM

set_option maxRecDepth 100000 in
set_option maxHeartbeats 3200000 in
theorem rread_1y (t : ByteArray) (w : World) (n : Int) (hp : pint t.data.toList 1099511627776 = (n, true)) (he : t = str (vshow (1, n, empty))) : Calls Tryd.prog 46 #[.string t] w fun e w' => e = .returned (.tuple #[.agg (vcells (1, n, empty)).toArray, .bool true]) ∧ Below w.heap.size w w' := by
  have hu := Tryd.underlying43
  have HIN := Lib.hid (fun wx : World => (show Calls Tryd.prog 27 #[.string t, .int .i64 1099511627776] wx fun e w' => e = .returned (.tuple #[.int .i64 (pint t.data.toList 1099511627776).1, .bool (pint t.data.toList 1099511627776).2]) ∧ Below wx.heap.size wx w' from
    (rint_any t 1099511627776 wx).mono fun e w' h => ⟨h.1, h.2 ▸ Below.refl _ _⟩))
  have HSH := Lib.hid (fun (wx : World) (hb : Below w.heap.size w wx) => (show Calls Tryd.prog 50 #[.agg (vcells (1, n, empty)).toArray] wx fun e w' => e = .returned (.string (str (vshow (1, n, empty)))) ∧ Below wx.heap.size wx w' from rvshow_any (1, n, empty) wx))
  rw [← he] at HSH
  clear he
  rw [hp] at HIN
  clear hp
  obtain ⟨W, hW, B0, B1, hb⟩ := two_news w
  subst hW
  have HZ0 : (vcells zval).toArray.all (·.oneCell') = true := all_oneCell_toArray (by intro v hv; simp only [vcells, List.mem_cons, List.not_mem_nil, or_false] at hv; rcases hv with rfl | rfl | rfl <;> rfl)
  have T7 := B1.there 0 3 (Nat.le_refl _)
  have U1 := B1.whole (ds := vcells zval) rfl
  have U0 := Blk.setsOther (b := w.heap.size + 1) (by omega) (vcells zval) 0 B0
  have UB := below_sets (B := w.heap.size) (b := w.heap.size + 1) (by omega) (vcells zval) 0 hb
  clear B0 B1 hb
  go_enter Tryd.func46, Tryd.ntmps46
  go_wp2_with (first
    | (refine wpList_store_mid rfl 43 (.tmp 4) (.tmp 7) rfl (w.heap.size + 1) 0 (vcells zval).toArray rfl rfl T7 info_val HZ0 ?_
       simp only [Act.put]
       generalize hw3 : World.setCells _ (w.heap.size + 1) 0 (vcells zval).toArray.toList = w3
       have B0 : Blk w3 w.heap.size (vcells zval) := hw3 ▸ U0
       have B1 : Blk w3 (w.heap.size + 1) (vcells zval) := hw3 ▸ U1
       have hb : Below w.heap.size w w3 := hw3 ▸ UB
       clear hw3 T7 U0 U1 UB)
    | fail)
  refine (HIN.out _).mono ?_
  rintro e w1 ⟨rfl, hb1⟩
  replace B0 := B0.later hb1
  replace B1 := B1.later hb1
  replace hb := hb.trans (hb1.mono hb.size)
  clear hb1
  have HO : (vcells (1, n, empty)).toArray.all (·.oneCell') = true := all_oneCell_toArray (by intro v hv; simp only [vcells, List.mem_cons, List.not_mem_nil, or_false] at hv; rcases hv with rfl | rfl | rfl <;> rfl)
  have HOZ : (vcells zval).toArray.all (·.oneCell') = true := all_oneCell_toArray (by intro v hv; simp only [vcells, List.mem_cons, List.not_mem_nil, or_false] at hv; rcases hv with rfl | rfl | rfl <;> rfl)
  have T1 := B1.there 0 3 (Nat.le_refl _)
  have S1 := B1.whole (ds := vcells (1, n, empty)) rfl
  have S0 := Blk.setsOther (b := w.heap.size + 1) (by omega) (vcells (1, n, empty)) 0 B0
  have EB := below_sets (B := w.heap.size) (b := w.heap.size + 1) (by omega) (vcells (1, n, empty)) 0 hb
  clear B0 B1 hb
  go_wp2_with (first
    | (refine wpList_store_mid rfl 43 (.tmp 4) (.tmp 15) rfl (w.heap.size + 1) 0 (vcells (1, n, empty)).toArray rfl rfl T1 info_val HO ?_
       simp only [Act.put]
       generalize hw4 : World.setCells w1 (w.heap.size + 1) 0 (vcells (1, n, empty)).toArray.toList = w4
       have e4 : World.setCells w1 (w.heap.size + 1) 0 (vcells (1, n, empty)) = w4 := hw4
       rw [e4] at S0 S1 EB
       clear hw4 e4 T1
       have R1 := S1.valR)
    | (refine wpList_load_mid rfl 43 (.tmp 4) rfl (w.heap.size + 1) 0 rfl (vcells (1, n, empty)) _ R1 hu rfl info_val ?_)
    | fail)
  refine (HSH.out _ EB).mono ?_
  rintro e w5 ⟨rfl, hb5⟩
  replace S0 := S0.later hb5
  replace S1 := S1.later hb5
  replace EB := EB.trans (hb5.mono EB.size)
  have T0 := S0.there 0 3 (Nat.le_refl _)
  replace R1 := S1.valR
  have F0 := S0.whole (ds := vcells (1, n, empty)) rfl
  have FB := below_sets (B := w.heap.size) (b := w.heap.size) (Nat.le_refl _) (vcells (1, n, empty)) 0 EB
  clear hb5 S0 S1 EB
  go_wp2_with (first
    | (refine wpList_load_mid rfl 43 (.tmp 4) rfl (w.heap.size + 1) 0 rfl (vcells (1, n, empty)) _ R1 hu rfl info_val ?_)
    | (refine wpList_store_mid rfl 43 (.tmp 2) (.tmp 37) rfl w.heap.size 0 (vcells (1, n, empty)).toArray rfl rfl T0 info_val HO ?_
       simp only [Act.put]
       generalize hw6 : World.setCells w5 w.heap.size 0 (vcells (1, n, empty)).toArray.toList = w6
       have e6 : World.setCells w5 w.heap.size 0 (vcells (1, n, empty)) = w6 := hw6
       rw [e6] at F0 FB
       clear hw6 e6 T0 R1)
    | fail)
  exact bodyPost_ret (v := .tuple #[.agg (vcells (1, n, empty)).toArray, .bool true]) (results_blk_tmp (p := 3) (q := 2) rfl _ _ w.heap.size (vcells (1, n, empty)) _ _ rfl rfl F0 hu rfl info_val) rfl ⟨rfl, FB⟩

set_option maxRecDepth 100000 in
set_option maxHeartbeats 3200000 in
theorem rread_1n (t : ByteArray) (w : World) (n : Int) (hp : pint t.data.toList 1099511627776 = (n, true)) (hneq : ((str (vshow (1, n, empty))).toList != t.toList) = true) : Calls Tryd.prog 46 #[.string t] w fun e w' => e = .returned (.tuple #[.agg (vcells zval).toArray, .bool false]) ∧ Below w.heap.size w w' := by
  have hu := Tryd.underlying43
  have HIN := Lib.hid (fun wx : World => (show Calls Tryd.prog 27 #[.string t, .int .i64 1099511627776] wx fun e w' => e = .returned (.tuple #[.int .i64 (pint t.data.toList 1099511627776).1, .bool (pint t.data.toList 1099511627776).2]) ∧ Below wx.heap.size wx w' from
    (rint_any t 1099511627776 wx).mono fun e w' h => ⟨h.1, h.2 ▸ Below.refl _ _⟩))
  have HSH := Lib.hid (fun (wx : World) (hb : Below w.heap.size w wx) => (show Calls Tryd.prog 50 #[.agg (vcells (1, n, empty)).toArray] wx fun e w' => e = .returned (.string (str (vshow (1, n, empty)))) ∧ Below wx.heap.size wx w' from rvshow_any (1, n, empty) wx))
  obtain ⟨su, hsu⟩ : ∃ su, su = str (vshow (1, n, empty)) := ⟨_, rfl⟩
  rw [← hsu] at HSH hneq
  have hneq2 : (su.toList == t.toList) = false := by simpa using hneq
  clear hsu
  rw [hp] at HIN
  clear hp
  obtain ⟨W, hW, B0, B1, hb⟩ := two_news w
  subst hW
  have HZ0 : (vcells zval).toArray.all (·.oneCell') = true := all_oneCell_toArray (by intro v hv; simp only [vcells, List.mem_cons, List.not_mem_nil, or_false] at hv; rcases hv with rfl | rfl | rfl <;> rfl)
  have T7 := B1.there 0 3 (Nat.le_refl _)
  have U1 := B1.whole (ds := vcells zval) rfl
  have U0 := Blk.setsOther (b := w.heap.size + 1) (by omega) (vcells zval) 0 B0
  have UB := below_sets (B := w.heap.size) (b := w.heap.size + 1) (by omega) (vcells zval) 0 hb
  clear B0 B1 hb
  go_enter Tryd.func46, Tryd.ntmps46
  go_wp2_with (first
    | (refine wpList_store_mid rfl 43 (.tmp 4) (.tmp 7) rfl (w.heap.size + 1) 0 (vcells zval).toArray rfl rfl T7 info_val HZ0 ?_
       simp only [Act.put]
       generalize hw3 : World.setCells _ (w.heap.size + 1) 0 (vcells zval).toArray.toList = w3
       have B0 : Blk w3 w.heap.size (vcells zval) := hw3 ▸ U0
       have B1 : Blk w3 (w.heap.size + 1) (vcells zval) := hw3 ▸ U1
       have hb : Below w.heap.size w w3 := hw3 ▸ UB
       clear hw3 T7 U0 U1 UB)
    | fail)
  refine (HIN.out _).mono ?_
  rintro e w1 ⟨rfl, hb1⟩
  replace B0 := B0.later hb1
  replace B1 := B1.later hb1
  replace hb := hb.trans (hb1.mono hb.size)
  clear hb1
  have HO : (vcells (1, n, empty)).toArray.all (·.oneCell') = true := all_oneCell_toArray (by intro v hv; simp only [vcells, List.mem_cons, List.not_mem_nil, or_false] at hv; rcases hv with rfl | rfl | rfl <;> rfl)
  have HOZ : (vcells zval).toArray.all (·.oneCell') = true := all_oneCell_toArray (by intro v hv; simp only [vcells, List.mem_cons, List.not_mem_nil, or_false] at hv; rcases hv with rfl | rfl | rfl <;> rfl)
  have T1 := B1.there 0 3 (Nat.le_refl _)
  have S1 := B1.whole (ds := vcells (1, n, empty)) rfl
  have S0 := Blk.setsOther (b := w.heap.size + 1) (by omega) (vcells (1, n, empty)) 0 B0
  have EB := below_sets (B := w.heap.size) (b := w.heap.size + 1) (by omega) (vcells (1, n, empty)) 0 hb
  clear B0 B1 hb
  go_wp2_with (first
    | (refine wpList_store_mid rfl 43 (.tmp 4) (.tmp 15) rfl (w.heap.size + 1) 0 (vcells (1, n, empty)).toArray rfl rfl T1 info_val HO ?_
       simp only [Act.put]
       generalize hw4 : World.setCells w1 (w.heap.size + 1) 0 (vcells (1, n, empty)).toArray.toList = w4
       have e4 : World.setCells w1 (w.heap.size + 1) 0 (vcells (1, n, empty)) = w4 := hw4
       rw [e4] at S0 S1 EB
       clear hw4 e4 T1
       have R1 := S1.valR)
    | (refine wpList_load_mid rfl 43 (.tmp 4) rfl (w.heap.size + 1) 0 rfl (vcells (1, n, empty)) _ R1 hu rfl info_val ?_)
    | fail)
  refine (HSH.out _ EB).mono ?_
  rintro e w5 ⟨rfl, hb5⟩
  replace S0 := S0.later hb5
  replace S1 := S1.later hb5
  replace EB := EB.trans (hb5.mono EB.size)
  have T0 := S0.there 0 3 (Nat.le_refl _)
  replace R1 := S1.valR
  have F0 := S0.whole (ds := vcells zval) rfl
  have FB := below_sets (B := w.heap.size) (b := w.heap.size) (Nat.le_refl _) (vcells zval) 0 EB
  clear hb5 S0 S1 EB
  go_wp2_with (first
    | (refine wpList_store_mid rfl 43 (.tmp 2) (.tmp 36) rfl w.heap.size 0 (vcells zval).toArray rfl rfl T0 info_val HOZ ?_
       simp only [Act.put]
       generalize hw6 : World.setCells w5 w.heap.size 0 (vcells zval).toArray.toList = w6
       have e6 : World.setCells w5 w.heap.size 0 (vcells zval) = w6 := hw6
       rw [e6] at F0 FB
       clear hw6 e6 T0 R1)
    | fail)
  exact bodyPost_ret (v := .tuple #[.agg (vcells zval).toArray, .bool false]) (results_blk_tmp (p := 3) (q := 2) rfl _ _ w.heap.size (vcells zval) _ _ rfl rfl F0 hu rfl info_val) rfl ⟨rfl, FB⟩

set_option maxRecDepth 100000 in
set_option maxHeartbeats 3200000 in
theorem rread_2y (t : ByteArray) (w : World) (p : ByteArray) (hp : (pint t.data.toList 1099511627776).2 = false) (hop : ∀ wx : World, Calls Tryd.prog 84 #[.string t] wx fun e w' => e = .returned (.string p) ∧ Below wx.heap.size wx w') (h1 : 1 < t.size) (h34 : t[0] = 34) (h98 : t.size ≤ 98) (he : t = str (vshow (2, 0, p))) : Calls Tryd.prog 46 #[.string t] w fun e w' => e = .returned (.tuple #[.agg (vcells (2, 0, p)).toArray, .bool true]) ∧ Below w.heap.size w w' := by
  have hu := Tryd.underlying43
  have HIN := Lib.hid (fun wx : World => (show Calls Tryd.prog 27 #[.string t, .int .i64 1099511627776] wx fun e w' => e = .returned (.tuple #[.int .i64 (pint t.data.toList 1099511627776).1, .bool (pint t.data.toList 1099511627776).2]) ∧ Below wx.heap.size wx w' from
    (rint_any t 1099511627776 wx).mono fun e w' h => ⟨h.1, h.2 ▸ Below.refl _ _⟩))
  have HSH := Lib.hid (fun (wx : World) (hb : Below w.heap.size w wx) => (show Calls Tryd.prog 50 #[.agg (vcells (2, 0, p)).toArray] wx fun e w' => e = .returned (.string (str (vshow (2, 0, p)))) ∧ Below wx.heap.size wx w' from rvshow_any (2, 0, p) wx))
  rw [← he] at HSH
  clear he
  rw [hp] at HIN
  obtain ⟨n0, hn0⟩ : ∃ n, n = (pint t.data.toList 1099511627776).1 := ⟨_, rfl⟩
  rw [← hn0] at HIN
  clear hp hn0
  have HOP := Lib.hid hop
  have n0 : ((t[0].toNat : Int) == 34) = true := by rw [h34]; rfl
  clear h34 hop
  obtain ⟨W, hW, B0, B1, hb⟩ := two_news w
  subst hW
  have HZ0 : (vcells zval).toArray.all (·.oneCell') = true := all_oneCell_toArray (by intro v hv; simp only [vcells, List.mem_cons, List.not_mem_nil, or_false] at hv; rcases hv with rfl | rfl | rfl <;> rfl)
  have T7 := B1.there 0 3 (Nat.le_refl _)
  have U1 := B1.whole (ds := vcells zval) rfl
  have U0 := Blk.setsOther (b := w.heap.size + 1) (by omega) (vcells zval) 0 B0
  have UB := below_sets (B := w.heap.size) (b := w.heap.size + 1) (by omega) (vcells zval) 0 hb
  clear B0 B1 hb
  go_enter Tryd.func46, Tryd.ntmps46
  go_wp2_with (first
    | (refine wpList_store_mid rfl 43 (.tmp 4) (.tmp 7) rfl (w.heap.size + 1) 0 (vcells zval).toArray rfl rfl T7 info_val HZ0 ?_
       simp only [Act.put]
       generalize hw3 : World.setCells _ (w.heap.size + 1) 0 (vcells zval).toArray.toList = w3
       have B0 : Blk w3 w.heap.size (vcells zval) := hw3 ▸ U0
       have B1 : Blk w3 (w.heap.size + 1) (vcells zval) := hw3 ▸ U1
       have hb : Below w.heap.size w w3 := hw3 ▸ UB
       clear hw3 T7 U0 U1 UB)
    | fail)
  refine (HIN.out _).mono ?_
  rintro e w1 ⟨rfl, hb1⟩
  replace B0 := B0.later hb1
  replace B1 := B1.later hb1
  replace hb := hb.trans (hb1.mono hb.size)
  clear hb1
  go_wp2_with fail
  refine (HOP.out _).mono ?_
  rintro e w2 ⟨rfl, hb1⟩
  replace B0 := B0.later hb1
  replace B1 := B1.later hb1
  replace hb := hb.trans (hb1.mono hb.size)
  clear hb1
  have HO : (vcells (2, 0, p)).toArray.all (·.oneCell') = true := all_oneCell_toArray (by intro v hv; simp only [vcells, List.mem_cons, List.not_mem_nil, or_false] at hv; rcases hv with rfl | rfl | rfl <;> rfl)
  have HOZ : (vcells zval).toArray.all (·.oneCell') = true := all_oneCell_toArray (by intro v hv; simp only [vcells, List.mem_cons, List.not_mem_nil, or_false] at hv; rcases hv with rfl | rfl | rfl <;> rfl)
  have T1 := B1.there 0 3 (Nat.le_refl _)
  have S1 := B1.whole (ds := vcells (2, 0, p)) rfl
  have S0 := Blk.setsOther (b := w.heap.size + 1) (by omega) (vcells (2, 0, p)) 0 B0
  have EB := below_sets (B := w.heap.size) (b := w.heap.size + 1) (by omega) (vcells (2, 0, p)) 0 hb
  clear B0 B1 hb
  go_wp2_with (first
    | (refine wpList_store_mid rfl 43 (.tmp 4) (.tmp 31) rfl (w.heap.size + 1) 0 (vcells (2, 0, p)).toArray rfl rfl T1 info_val HO ?_
       simp only [Act.put]
       generalize hw4 : World.setCells w2 (w.heap.size + 1) 0 (vcells (2, 0, p)).toArray.toList = w4
       have e4 : World.setCells w2 (w.heap.size + 1) 0 (vcells (2, 0, p)) = w4 := hw4
       rw [e4] at S0 S1 EB
       clear hw4 e4 T1
       have R1 := S1.valR)
    | (refine wpList_load_mid rfl 43 (.tmp 4) rfl (w.heap.size + 1) 0 rfl (vcells (2, 0, p)) _ R1 hu rfl info_val ?_)
    | fail)
  refine (HSH.out _ EB).mono ?_
  rintro e w5 ⟨rfl, hb5⟩
  replace S0 := S0.later hb5
  replace S1 := S1.later hb5
  replace EB := EB.trans (hb5.mono EB.size)
  have T0 := S0.there 0 3 (Nat.le_refl _)
  replace R1 := S1.valR
  have F0 := S0.whole (ds := vcells (2, 0, p)) rfl
  have FB := below_sets (B := w.heap.size) (b := w.heap.size) (Nat.le_refl _) (vcells (2, 0, p)) 0 EB
  clear hb5 S0 S1 EB
  go_wp2_with (first
    | (refine wpList_load_mid rfl 43 (.tmp 4) rfl (w.heap.size + 1) 0 rfl (vcells (2, 0, p)) _ R1 hu rfl info_val ?_)
    | (refine wpList_store_mid rfl 43 (.tmp 2) (.tmp 37) rfl w.heap.size 0 (vcells (2, 0, p)).toArray rfl rfl T0 info_val HO ?_
       simp only [Act.put]
       generalize hw6 : World.setCells w5 w.heap.size 0 (vcells (2, 0, p)).toArray.toList = w6
       have e6 : World.setCells w5 w.heap.size 0 (vcells (2, 0, p)) = w6 := hw6
       rw [e6] at F0 FB
       clear hw6 e6 T0 R1)
    | fail)
  exact bodyPost_ret (v := .tuple #[.agg (vcells (2, 0, p)).toArray, .bool true]) (results_blk_tmp (p := 3) (q := 2) rfl _ _ w.heap.size (vcells (2, 0, p)) _ _ rfl rfl F0 hu rfl info_val) rfl ⟨rfl, FB⟩

set_option maxRecDepth 100000 in
set_option maxHeartbeats 3200000 in
theorem rread_2n (t : ByteArray) (w : World) (hp : (pint t.data.toList 1099511627776).2 = false) (hop : ∀ wx : World, Calls Tryd.prog 84 #[.string t] wx fun e w' => (∃ p, e = .returned (.string p)) ∧ Below wx.heap.size wx w') (h1 : 1 < t.size) (h34 : t[0] = 34) (h98 : t.size ≤ 98) (hneqs : ∀ p : ByteArray, ((str (vshow (2, 0, p))).toList != t.toList) = true) : Calls Tryd.prog 46 #[.string t] w fun e w' => e = .returned (.tuple #[.agg (vcells zval).toArray, .bool false]) ∧ Below w.heap.size w w' := by
  have hu := Tryd.underlying43
  have HIN := Lib.hid (fun wx : World => (show Calls Tryd.prog 27 #[.string t, .int .i64 1099511627776] wx fun e w' => e = .returned (.tuple #[.int .i64 (pint t.data.toList 1099511627776).1, .bool (pint t.data.toList 1099511627776).2]) ∧ Below wx.heap.size wx w' from
    (rint_any t 1099511627776 wx).mono fun e w' h => ⟨h.1, h.2 ▸ Below.refl _ _⟩))
  have HNS := Lib.hid hneqs
  clear hneqs
  rw [hp] at HIN
  obtain ⟨n0, hn0⟩ : ∃ n, n = (pint t.data.toList 1099511627776).1 := ⟨_, rfl⟩
  rw [← hn0] at HIN
  clear hp hn0
  have HOP := Lib.hid hop
  have n0 : ((t[0].toNat : Int) == 34) = true := by rw [h34]; rfl
  clear h34 hop
  obtain ⟨W, hW, B0, B1, hb⟩ := two_news w
  subst hW
  have HZ0 : (vcells zval).toArray.all (·.oneCell') = true := all_oneCell_toArray (by intro v hv; simp only [vcells, List.mem_cons, List.not_mem_nil, or_false] at hv; rcases hv with rfl | rfl | rfl <;> rfl)
  have T7 := B1.there 0 3 (Nat.le_refl _)
  have U1 := B1.whole (ds := vcells zval) rfl
  have U0 := Blk.setsOther (b := w.heap.size + 1) (by omega) (vcells zval) 0 B0
  have UB := below_sets (B := w.heap.size) (b := w.heap.size + 1) (by omega) (vcells zval) 0 hb
  clear B0 B1 hb
  go_enter Tryd.func46, Tryd.ntmps46
  go_wp2_with (first
    | (refine wpList_store_mid rfl 43 (.tmp 4) (.tmp 7) rfl (w.heap.size + 1) 0 (vcells zval).toArray rfl rfl T7 info_val HZ0 ?_
       simp only [Act.put]
       generalize hw3 : World.setCells _ (w.heap.size + 1) 0 (vcells zval).toArray.toList = w3
       have B0 : Blk w3 w.heap.size (vcells zval) := hw3 ▸ U0
       have B1 : Blk w3 (w.heap.size + 1) (vcells zval) := hw3 ▸ U1
       have hb : Below w.heap.size w w3 := hw3 ▸ UB
       clear hw3 T7 U0 U1 UB)
    | fail)
  refine (HIN.out _).mono ?_
  rintro e w1 ⟨rfl, hb1⟩
  replace B0 := B0.later hb1
  replace B1 := B1.later hb1
  replace hb := hb.trans (hb1.mono hb.size)
  clear hb1
  go_wp2_with fail
  refine (HOP.out _).mono ?_
  rintro e w2 ⟨⟨p, rfl⟩, hb1⟩
  replace B0 := B0.later hb1
  replace B1 := B1.later hb1
  replace hb := hb.trans (hb1.mono hb.size)
  clear hb1
  have HSH := Lib.hid (fun (wx : World) (hb : Below w.heap.size w wx) => (show Calls Tryd.prog 50 #[.agg (vcells (2, 0, p)).toArray] wx fun e w' => e = .returned (.string (str (vshow (2, 0, p)))) ∧ Below wx.heap.size wx w' from rvshow_any (2, 0, p) wx))
  have hneq := HNS.out p
  obtain ⟨su, hsu⟩ : ∃ su, su = str (vshow (2, 0, p)) := ⟨_, rfl⟩
  rw [← hsu] at HSH hneq
  have hneq2 : (su.toList == t.toList) = false := by simpa using hneq
  clear hsu
  have HO : (vcells (2, 0, p)).toArray.all (·.oneCell') = true := all_oneCell_toArray (by intro v hv; simp only [vcells, List.mem_cons, List.not_mem_nil, or_false] at hv; rcases hv with rfl | rfl | rfl <;> rfl)
  have HOZ : (vcells zval).toArray.all (·.oneCell') = true := all_oneCell_toArray (by intro v hv; simp only [vcells, List.mem_cons, List.not_mem_nil, or_false] at hv; rcases hv with rfl | rfl | rfl <;> rfl)
  have T1 := B1.there 0 3 (Nat.le_refl _)
  have S1 := B1.whole (ds := vcells (2, 0, p)) rfl
  have S0 := Blk.setsOther (b := w.heap.size + 1) (by omega) (vcells (2, 0, p)) 0 B0
  have EB := below_sets (B := w.heap.size) (b := w.heap.size + 1) (by omega) (vcells (2, 0, p)) 0 hb
  clear B0 B1 hb
  go_wp2_with (first
    | (refine wpList_store_mid rfl 43 (.tmp 4) (.tmp 31) rfl (w.heap.size + 1) 0 (vcells (2, 0, p)).toArray rfl rfl T1 info_val HO ?_
       simp only [Act.put]
       generalize hw4 : World.setCells w2 (w.heap.size + 1) 0 (vcells (2, 0, p)).toArray.toList = w4
       have e4 : World.setCells w2 (w.heap.size + 1) 0 (vcells (2, 0, p)) = w4 := hw4
       rw [e4] at S0 S1 EB
       clear hw4 e4 T1
       have R1 := S1.valR)
    | (refine wpList_load_mid rfl 43 (.tmp 4) rfl (w.heap.size + 1) 0 rfl (vcells (2, 0, p)) _ R1 hu rfl info_val ?_)
    | fail)
  refine (HSH.out _ EB).mono ?_
  rintro e w5 ⟨rfl, hb5⟩
  replace S0 := S0.later hb5
  replace S1 := S1.later hb5
  replace EB := EB.trans (hb5.mono EB.size)
  have T0 := S0.there 0 3 (Nat.le_refl _)
  replace R1 := S1.valR
  have F0 := S0.whole (ds := vcells zval) rfl
  have FB := below_sets (B := w.heap.size) (b := w.heap.size) (Nat.le_refl _) (vcells zval) 0 EB
  clear hb5 S0 S1 EB
  go_wp2_with (first
    | (refine wpList_store_mid rfl 43 (.tmp 2) (.tmp 36) rfl w.heap.size 0 (vcells zval).toArray rfl rfl T0 info_val HOZ ?_
       simp only [Act.put]
       generalize hw6 : World.setCells w5 w.heap.size 0 (vcells zval).toArray.toList = w6
       have e6 : World.setCells w5 w.heap.size 0 (vcells zval) = w6 := hw6
       rw [e6] at F0 FB
       clear hw6 e6 T0 R1)
    | fail)
  exact bodyPost_ret (v := .tuple #[.agg (vcells zval).toArray, .bool false]) (results_blk_tmp (p := 3) (q := 2) rfl _ _ w.heap.size (vcells zval) _ _ rfl rfl F0 hu rfl info_val) rfl ⟨rfl, FB⟩

set_option maxRecDepth 100000 in
set_option maxHeartbeats 3200000 in
theorem rread_3y (t : ByteArray) (w : World) (hp : (pint t.data.toList 1099511627776).2 = false) (hno : ¬ (1 < t.size ∧ (∃ h : 0 < t.size, t[0] = 34) ∧ t.size ≤ 98)) (he : t = str (vshow zval)) : Calls Tryd.prog 46 #[.string t] w fun e w' => e = .returned (.tuple #[.agg (vcells zval).toArray, .bool true]) ∧ Below w.heap.size w w' := by
  have hu := Tryd.underlying43
  have HIN := Lib.hid (fun wx : World => (show Calls Tryd.prog 27 #[.string t, .int .i64 1099511627776] wx fun e w' => e = .returned (.tuple #[.int .i64 (pint t.data.toList 1099511627776).1, .bool (pint t.data.toList 1099511627776).2]) ∧ Below wx.heap.size wx w' from
    (rint_any t 1099511627776 wx).mono fun e w' h => ⟨h.1, h.2 ▸ Below.refl _ _⟩))
  have HSH := Lib.hid (fun (wx : World) (hb : Below w.heap.size w wx) => (show Calls Tryd.prog 50 #[.agg (vcells zval).toArray] wx fun e w' => e = .returned (.string (str (vshow zval))) ∧ Below wx.heap.size wx w' from rvshow_any zval wx))
  rw [← he] at HSH
  clear he
  rw [hp] at HIN
  obtain ⟨n0, hn0⟩ : ∃ n, n = (pint t.data.toList 1099511627776).1 := ⟨_, rfl⟩
  rw [← hn0] at HIN
  clear hp hn0
  obtain ⟨W, hW, B0, B1, hb⟩ := two_news w
  subst hW
  have key : (¬ (1 : Int) < (t.size : Int)) ∨ (∃ h : 1 < t.size, ((t[0].toNat : Int) == 34) = false) ∨ (∃ h : 1 < t.size, ((t[0].toNat : Int) == 34) = true ∧ ¬ (t.size : Int) ≤ 98) := by
    by_cases h1 : 1 < t.size
    · by_cases h2 : t[0] = 34
      · right; right
        refine ⟨h1, by rw [h2]; rfl, ?_⟩
        intro h3
        exact hno ⟨h1, ⟨by omega, h2⟩, by omega⟩
      · right; left
        refine ⟨h1, ?_⟩
        rw [beq_eq_false_iff_ne]; intro e; exact h2 (UInt8.toNat_inj.1 (Int.ofNat_inj.1 e))
    · left; omega
  clear hno
  rcases key with k1 | ⟨k1, k2⟩ | ⟨k1, k2, k3⟩
  · have HZ0 : (vcells zval).toArray.all (·.oneCell') = true := all_oneCell_toArray (by intro v hv; simp only [vcells, List.mem_cons, List.not_mem_nil, or_false] at hv; rcases hv with rfl | rfl | rfl <;> rfl)
    have T7 := B1.there 0 3 (Nat.le_refl _)
    have U1 := B1.whole (ds := vcells zval) rfl
    have U0 := Blk.setsOther (b := w.heap.size + 1) (by omega) (vcells zval) 0 B0
    have UB := below_sets (B := w.heap.size) (b := w.heap.size + 1) (by omega) (vcells zval) 0 hb
    clear B0 B1 hb
    go_enter Tryd.func46, Tryd.ntmps46
    go_wp2_with (first
      | (refine wpList_store_mid rfl 43 (.tmp 4) (.tmp 7) rfl (w.heap.size + 1) 0 (vcells zval).toArray rfl rfl T7 info_val HZ0 ?_
         simp only [Act.put]
         generalize hw3 : World.setCells _ (w.heap.size + 1) 0 (vcells zval).toArray.toList = w3
         have B0 : Blk w3 w.heap.size (vcells zval) := hw3 ▸ U0
         have B1 : Blk w3 (w.heap.size + 1) (vcells zval) := hw3 ▸ U1
         have hb : Below w.heap.size w w3 := hw3 ▸ UB
         clear hw3 T7 U0 U1 UB)
      | fail)
    refine (HIN.out _).mono ?_
    rintro e w1 ⟨rfl, hb1⟩
    replace B0 := B0.later hb1
    replace B1 := B1.later hb1
    replace hb := hb.trans (hb1.mono hb.size)
    clear hb1
    have HO : (vcells zval).toArray.all (·.oneCell') = true := all_oneCell_toArray (by intro v hv; simp only [vcells, List.mem_cons, List.not_mem_nil, or_false] at hv; rcases hv with rfl | rfl | rfl <;> rfl)
    have HOZ : (vcells zval).toArray.all (·.oneCell') = true := all_oneCell_toArray (by intro v hv; simp only [vcells, List.mem_cons, List.not_mem_nil, or_false] at hv; rcases hv with rfl | rfl | rfl <;> rfl)
    have S0 := B0
    have S1 := B1
    have EB := hb
    have R1 := S1.valR
    clear B0 B1 hb
    go_wp2_with (first
      | (refine wpList_load_mid rfl 43 (.tmp 4) rfl (w.heap.size + 1) 0 rfl (vcells zval) _ R1 hu rfl info_val ?_)
      | fail)
    refine (HSH.out _ EB).mono ?_
    rintro e w5 ⟨rfl, hb5⟩
    replace S0 := S0.later hb5
    replace S1 := S1.later hb5
    replace EB := EB.trans (hb5.mono EB.size)
    have T0 := S0.there 0 3 (Nat.le_refl _)
    replace R1 := S1.valR
    have F0 := S0.whole (ds := vcells zval) rfl
    have FB := below_sets (B := w.heap.size) (b := w.heap.size) (Nat.le_refl _) (vcells zval) 0 EB
    clear hb5 S0 S1 EB
    go_wp2_with (first
      | (refine wpList_load_mid rfl 43 (.tmp 4) rfl (w.heap.size + 1) 0 rfl (vcells zval) _ R1 hu rfl info_val ?_)
      | (refine wpList_store_mid rfl 43 (.tmp 2) (.tmp 37) rfl w.heap.size 0 (vcells zval).toArray rfl rfl T0 info_val HO ?_
         simp only [Act.put]
         generalize hw6 : World.setCells w5 w.heap.size 0 (vcells zval).toArray.toList = w6
         have e6 : World.setCells w5 w.heap.size 0 (vcells zval) = w6 := hw6
         rw [e6] at F0 FB
         clear hw6 e6 T0 R1)
      | fail)
    exact bodyPost_ret (v := .tuple #[.agg (vcells zval).toArray, .bool true]) (results_blk_tmp (p := 3) (q := 2) rfl _ _ w.heap.size (vcells zval) _ _ rfl rfl F0 hu rfl info_val) rfl ⟨rfl, FB⟩
  · have HZ0 : (vcells zval).toArray.all (·.oneCell') = true := all_oneCell_toArray (by intro v hv; simp only [vcells, List.mem_cons, List.not_mem_nil, or_false] at hv; rcases hv with rfl | rfl | rfl <;> rfl)
    have T7 := B1.there 0 3 (Nat.le_refl _)
    have U1 := B1.whole (ds := vcells zval) rfl
    have U0 := Blk.setsOther (b := w.heap.size + 1) (by omega) (vcells zval) 0 B0
    have UB := below_sets (B := w.heap.size) (b := w.heap.size + 1) (by omega) (vcells zval) 0 hb
    clear B0 B1 hb
    go_enter Tryd.func46, Tryd.ntmps46
    go_wp2_with (first
      | (refine wpList_store_mid rfl 43 (.tmp 4) (.tmp 7) rfl (w.heap.size + 1) 0 (vcells zval).toArray rfl rfl T7 info_val HZ0 ?_
         simp only [Act.put]
         generalize hw3 : World.setCells _ (w.heap.size + 1) 0 (vcells zval).toArray.toList = w3
         have B0 : Blk w3 w.heap.size (vcells zval) := hw3 ▸ U0
         have B1 : Blk w3 (w.heap.size + 1) (vcells zval) := hw3 ▸ U1
         have hb : Below w.heap.size w w3 := hw3 ▸ UB
         clear hw3 T7 U0 U1 UB)
      | fail)
    refine (HIN.out _).mono ?_
    rintro e w1 ⟨rfl, hb1⟩
    replace B0 := B0.later hb1
    replace B1 := B1.later hb1
    replace hb := hb.trans (hb1.mono hb.size)
    clear hb1
    have HO : (vcells zval).toArray.all (·.oneCell') = true := all_oneCell_toArray (by intro v hv; simp only [vcells, List.mem_cons, List.not_mem_nil, or_false] at hv; rcases hv with rfl | rfl | rfl <;> rfl)
    have HOZ : (vcells zval).toArray.all (·.oneCell') = true := all_oneCell_toArray (by intro v hv; simp only [vcells, List.mem_cons, List.not_mem_nil, or_false] at hv; rcases hv with rfl | rfl | rfl <;> rfl)
    have S0 := B0
    have S1 := B1
    have EB := hb
    have R1 := S1.valR
    clear B0 B1 hb
    go_wp2_with (first
      | (refine wpList_load_mid rfl 43 (.tmp 4) rfl (w.heap.size + 1) 0 rfl (vcells zval) _ R1 hu rfl info_val ?_)
      | fail)
    refine (HSH.out _ EB).mono ?_
    rintro e w5 ⟨rfl, hb5⟩
    replace S0 := S0.later hb5
    replace S1 := S1.later hb5
    replace EB := EB.trans (hb5.mono EB.size)
    have T0 := S0.there 0 3 (Nat.le_refl _)
    replace R1 := S1.valR
    have F0 := S0.whole (ds := vcells zval) rfl
    have FB := below_sets (B := w.heap.size) (b := w.heap.size) (Nat.le_refl _) (vcells zval) 0 EB
    clear hb5 S0 S1 EB
    go_wp2_with (first
      | (refine wpList_load_mid rfl 43 (.tmp 4) rfl (w.heap.size + 1) 0 rfl (vcells zval) _ R1 hu rfl info_val ?_)
      | (refine wpList_store_mid rfl 43 (.tmp 2) (.tmp 37) rfl w.heap.size 0 (vcells zval).toArray rfl rfl T0 info_val HO ?_
         simp only [Act.put]
         generalize hw6 : World.setCells w5 w.heap.size 0 (vcells zval).toArray.toList = w6
         have e6 : World.setCells w5 w.heap.size 0 (vcells zval) = w6 := hw6
         rw [e6] at F0 FB
         clear hw6 e6 T0 R1)
      | fail)
    exact bodyPost_ret (v := .tuple #[.agg (vcells zval).toArray, .bool true]) (results_blk_tmp (p := 3) (q := 2) rfl _ _ w.heap.size (vcells zval) _ _ rfl rfl F0 hu rfl info_val) rfl ⟨rfl, FB⟩
  · have HZ0 : (vcells zval).toArray.all (·.oneCell') = true := all_oneCell_toArray (by intro v hv; simp only [vcells, List.mem_cons, List.not_mem_nil, or_false] at hv; rcases hv with rfl | rfl | rfl <;> rfl)
    have T7 := B1.there 0 3 (Nat.le_refl _)
    have U1 := B1.whole (ds := vcells zval) rfl
    have U0 := Blk.setsOther (b := w.heap.size + 1) (by omega) (vcells zval) 0 B0
    have UB := below_sets (B := w.heap.size) (b := w.heap.size + 1) (by omega) (vcells zval) 0 hb
    clear B0 B1 hb
    go_enter Tryd.func46, Tryd.ntmps46
    go_wp2_with (first
      | (refine wpList_store_mid rfl 43 (.tmp 4) (.tmp 7) rfl (w.heap.size + 1) 0 (vcells zval).toArray rfl rfl T7 info_val HZ0 ?_
         simp only [Act.put]
         generalize hw3 : World.setCells _ (w.heap.size + 1) 0 (vcells zval).toArray.toList = w3
         have B0 : Blk w3 w.heap.size (vcells zval) := hw3 ▸ U0
         have B1 : Blk w3 (w.heap.size + 1) (vcells zval) := hw3 ▸ U1
         have hb : Below w.heap.size w w3 := hw3 ▸ UB
         clear hw3 T7 U0 U1 UB)
      | fail)
    refine (HIN.out _).mono ?_
    rintro e w1 ⟨rfl, hb1⟩
    replace B0 := B0.later hb1
    replace B1 := B1.later hb1
    replace hb := hb.trans (hb1.mono hb.size)
    clear hb1
    have HO : (vcells zval).toArray.all (·.oneCell') = true := all_oneCell_toArray (by intro v hv; simp only [vcells, List.mem_cons, List.not_mem_nil, or_false] at hv; rcases hv with rfl | rfl | rfl <;> rfl)
    have HOZ : (vcells zval).toArray.all (·.oneCell') = true := all_oneCell_toArray (by intro v hv; simp only [vcells, List.mem_cons, List.not_mem_nil, or_false] at hv; rcases hv with rfl | rfl | rfl <;> rfl)
    have S0 := B0
    have S1 := B1
    have EB := hb
    have R1 := S1.valR
    clear B0 B1 hb
    go_wp2_with (first
      | (refine wpList_load_mid rfl 43 (.tmp 4) rfl (w.heap.size + 1) 0 rfl (vcells zval) _ R1 hu rfl info_val ?_)
      | fail)
    refine (HSH.out _ EB).mono ?_
    rintro e w5 ⟨rfl, hb5⟩
    replace S0 := S0.later hb5
    replace S1 := S1.later hb5
    replace EB := EB.trans (hb5.mono EB.size)
    have T0 := S0.there 0 3 (Nat.le_refl _)
    replace R1 := S1.valR
    have F0 := S0.whole (ds := vcells zval) rfl
    have FB := below_sets (B := w.heap.size) (b := w.heap.size) (Nat.le_refl _) (vcells zval) 0 EB
    clear hb5 S0 S1 EB
    go_wp2_with (first
      | (refine wpList_load_mid rfl 43 (.tmp 4) rfl (w.heap.size + 1) 0 rfl (vcells zval) _ R1 hu rfl info_val ?_)
      | (refine wpList_store_mid rfl 43 (.tmp 2) (.tmp 37) rfl w.heap.size 0 (vcells zval).toArray rfl rfl T0 info_val HO ?_
         simp only [Act.put]
         generalize hw6 : World.setCells w5 w.heap.size 0 (vcells zval).toArray.toList = w6
         have e6 : World.setCells w5 w.heap.size 0 (vcells zval) = w6 := hw6
         rw [e6] at F0 FB
         clear hw6 e6 T0 R1)
      | fail)
    exact bodyPost_ret (v := .tuple #[.agg (vcells zval).toArray, .bool true]) (results_blk_tmp (p := 3) (q := 2) rfl _ _ w.heap.size (vcells zval) _ _ rfl rfl F0 hu rfl info_val) rfl ⟨rfl, FB⟩

set_option maxRecDepth 100000 in
set_option maxHeartbeats 3200000 in
theorem rread_3n (t : ByteArray) (w : World) (hp : (pint t.data.toList 1099511627776).2 = false) (hno : ¬ (1 < t.size ∧ (∃ h : 0 < t.size, t[0] = 34) ∧ t.size ≤ 98)) (hneq : ((str (vshow zval)).toList != t.toList) = true) : Calls Tryd.prog 46 #[.string t] w fun e w' => e = .returned (.tuple #[.agg (vcells zval).toArray, .bool false]) ∧ Below w.heap.size w w' := by
  have hu := Tryd.underlying43
  have HIN := Lib.hid (fun wx : World => (show Calls Tryd.prog 27 #[.string t, .int .i64 1099511627776] wx fun e w' => e = .returned (.tuple #[.int .i64 (pint t.data.toList 1099511627776).1, .bool (pint t.data.toList 1099511627776).2]) ∧ Below wx.heap.size wx w' from
    (rint_any t 1099511627776 wx).mono fun e w' h => ⟨h.1, h.2 ▸ Below.refl _ _⟩))
  have HSH := Lib.hid (fun (wx : World) (hb : Below w.heap.size w wx) => (show Calls Tryd.prog 50 #[.agg (vcells zval).toArray] wx fun e w' => e = .returned (.string (str (vshow zval))) ∧ Below wx.heap.size wx w' from rvshow_any zval wx))
  obtain ⟨su, hsu⟩ : ∃ su, su = str (vshow zval) := ⟨_, rfl⟩
  rw [← hsu] at HSH hneq
  have hneq2 : (su.toList == t.toList) = false := by simpa using hneq
  clear hsu
  rw [hp] at HIN
  obtain ⟨n0, hn0⟩ : ∃ n, n = (pint t.data.toList 1099511627776).1 := ⟨_, rfl⟩
  rw [← hn0] at HIN
  clear hp hn0
  obtain ⟨W, hW, B0, B1, hb⟩ := two_news w
  subst hW
  have key : (¬ (1 : Int) < (t.size : Int)) ∨ (∃ h : 1 < t.size, ((t[0].toNat : Int) == 34) = false) ∨ (∃ h : 1 < t.size, ((t[0].toNat : Int) == 34) = true ∧ ¬ (t.size : Int) ≤ 98) := by
    by_cases h1 : 1 < t.size
    · by_cases h2 : t[0] = 34
      · right; right
        refine ⟨h1, by rw [h2]; rfl, ?_⟩
        intro h3
        exact hno ⟨h1, ⟨by omega, h2⟩, by omega⟩
      · right; left
        refine ⟨h1, ?_⟩
        rw [beq_eq_false_iff_ne]; intro e; exact h2 (UInt8.toNat_inj.1 (Int.ofNat_inj.1 e))
    · left; omega
  clear hno
  rcases key with k1 | ⟨k1, k2⟩ | ⟨k1, k2, k3⟩
  · have HZ0 : (vcells zval).toArray.all (·.oneCell') = true := all_oneCell_toArray (by intro v hv; simp only [vcells, List.mem_cons, List.not_mem_nil, or_false] at hv; rcases hv with rfl | rfl | rfl <;> rfl)
    have T7 := B1.there 0 3 (Nat.le_refl _)
    have U1 := B1.whole (ds := vcells zval) rfl
    have U0 := Blk.setsOther (b := w.heap.size + 1) (by omega) (vcells zval) 0 B0
    have UB := below_sets (B := w.heap.size) (b := w.heap.size + 1) (by omega) (vcells zval) 0 hb
    clear B0 B1 hb
    go_enter Tryd.func46, Tryd.ntmps46
    go_wp2_with (first
      | (refine wpList_store_mid rfl 43 (.tmp 4) (.tmp 7) rfl (w.heap.size + 1) 0 (vcells zval).toArray rfl rfl T7 info_val HZ0 ?_
         simp only [Act.put]
         generalize hw3 : World.setCells _ (w.heap.size + 1) 0 (vcells zval).toArray.toList = w3
         have B0 : Blk w3 w.heap.size (vcells zval) := hw3 ▸ U0
         have B1 : Blk w3 (w.heap.size + 1) (vcells zval) := hw3 ▸ U1
         have hb : Below w.heap.size w w3 := hw3 ▸ UB
         clear hw3 T7 U0 U1 UB)
      | fail)
    refine (HIN.out _).mono ?_
    rintro e w1 ⟨rfl, hb1⟩
    replace B0 := B0.later hb1
    replace B1 := B1.later hb1
    replace hb := hb.trans (hb1.mono hb.size)
    clear hb1
    have HO : (vcells zval).toArray.all (·.oneCell') = true := all_oneCell_toArray (by intro v hv; simp only [vcells, List.mem_cons, List.not_mem_nil, or_false] at hv; rcases hv with rfl | rfl | rfl <;> rfl)
    have HOZ : (vcells zval).toArray.all (·.oneCell') = true := all_oneCell_toArray (by intro v hv; simp only [vcells, List.mem_cons, List.not_mem_nil, or_false] at hv; rcases hv with rfl | rfl | rfl <;> rfl)
    have S0 := B0
    have S1 := B1
    have EB := hb
    have R1 := S1.valR
    clear B0 B1 hb
    go_wp2_with (first
      | (refine wpList_load_mid rfl 43 (.tmp 4) rfl (w.heap.size + 1) 0 rfl (vcells zval) _ R1 hu rfl info_val ?_)
      | fail)
    refine (HSH.out _ EB).mono ?_
    rintro e w5 ⟨rfl, hb5⟩
    replace S0 := S0.later hb5
    replace S1 := S1.later hb5
    replace EB := EB.trans (hb5.mono EB.size)
    have T0 := S0.there 0 3 (Nat.le_refl _)
    replace R1 := S1.valR
    have F0 := S0.whole (ds := vcells zval) rfl
    have FB := below_sets (B := w.heap.size) (b := w.heap.size) (Nat.le_refl _) (vcells zval) 0 EB
    clear hb5 S0 S1 EB
    go_wp2_with (first
      | (refine wpList_store_mid rfl 43 (.tmp 2) (.tmp 36) rfl w.heap.size 0 (vcells zval).toArray rfl rfl T0 info_val HOZ ?_
         simp only [Act.put]
         generalize hw6 : World.setCells w5 w.heap.size 0 (vcells zval).toArray.toList = w6
         have e6 : World.setCells w5 w.heap.size 0 (vcells zval) = w6 := hw6
         rw [e6] at F0 FB
         clear hw6 e6 T0 R1)
      | fail)
    exact bodyPost_ret (v := .tuple #[.agg (vcells zval).toArray, .bool false]) (results_blk_tmp (p := 3) (q := 2) rfl _ _ w.heap.size (vcells zval) _ _ rfl rfl F0 hu rfl info_val) rfl ⟨rfl, FB⟩
  · have HZ0 : (vcells zval).toArray.all (·.oneCell') = true := all_oneCell_toArray (by intro v hv; simp only [vcells, List.mem_cons, List.not_mem_nil, or_false] at hv; rcases hv with rfl | rfl | rfl <;> rfl)
    have T7 := B1.there 0 3 (Nat.le_refl _)
    have U1 := B1.whole (ds := vcells zval) rfl
    have U0 := Blk.setsOther (b := w.heap.size + 1) (by omega) (vcells zval) 0 B0
    have UB := below_sets (B := w.heap.size) (b := w.heap.size + 1) (by omega) (vcells zval) 0 hb
    clear B0 B1 hb
    go_enter Tryd.func46, Tryd.ntmps46
    go_wp2_with (first
      | (refine wpList_store_mid rfl 43 (.tmp 4) (.tmp 7) rfl (w.heap.size + 1) 0 (vcells zval).toArray rfl rfl T7 info_val HZ0 ?_
         simp only [Act.put]
         generalize hw3 : World.setCells _ (w.heap.size + 1) 0 (vcells zval).toArray.toList = w3
         have B0 : Blk w3 w.heap.size (vcells zval) := hw3 ▸ U0
         have B1 : Blk w3 (w.heap.size + 1) (vcells zval) := hw3 ▸ U1
         have hb : Below w.heap.size w w3 := hw3 ▸ UB
         clear hw3 T7 U0 U1 UB)
      | fail)
    refine (HIN.out _).mono ?_
    rintro e w1 ⟨rfl, hb1⟩
    replace B0 := B0.later hb1
    replace B1 := B1.later hb1
    replace hb := hb.trans (hb1.mono hb.size)
    clear hb1
    have HO : (vcells zval).toArray.all (·.oneCell') = true := all_oneCell_toArray (by intro v hv; simp only [vcells, List.mem_cons, List.not_mem_nil, or_false] at hv; rcases hv with rfl | rfl | rfl <;> rfl)
    have HOZ : (vcells zval).toArray.all (·.oneCell') = true := all_oneCell_toArray (by intro v hv; simp only [vcells, List.mem_cons, List.not_mem_nil, or_false] at hv; rcases hv with rfl | rfl | rfl <;> rfl)
    have S0 := B0
    have S1 := B1
    have EB := hb
    have R1 := S1.valR
    clear B0 B1 hb
    go_wp2_with (first
      | (refine wpList_load_mid rfl 43 (.tmp 4) rfl (w.heap.size + 1) 0 rfl (vcells zval) _ R1 hu rfl info_val ?_)
      | fail)
    refine (HSH.out _ EB).mono ?_
    rintro e w5 ⟨rfl, hb5⟩
    replace S0 := S0.later hb5
    replace S1 := S1.later hb5
    replace EB := EB.trans (hb5.mono EB.size)
    have T0 := S0.there 0 3 (Nat.le_refl _)
    replace R1 := S1.valR
    have F0 := S0.whole (ds := vcells zval) rfl
    have FB := below_sets (B := w.heap.size) (b := w.heap.size) (Nat.le_refl _) (vcells zval) 0 EB
    clear hb5 S0 S1 EB
    go_wp2_with (first
      | (refine wpList_store_mid rfl 43 (.tmp 2) (.tmp 36) rfl w.heap.size 0 (vcells zval).toArray rfl rfl T0 info_val HOZ ?_
         simp only [Act.put]
         generalize hw6 : World.setCells w5 w.heap.size 0 (vcells zval).toArray.toList = w6
         have e6 : World.setCells w5 w.heap.size 0 (vcells zval) = w6 := hw6
         rw [e6] at F0 FB
         clear hw6 e6 T0 R1)
      | fail)
    exact bodyPost_ret (v := .tuple #[.agg (vcells zval).toArray, .bool false]) (results_blk_tmp (p := 3) (q := 2) rfl _ _ w.heap.size (vcells zval) _ _ rfl rfl F0 hu rfl info_val) rfl ⟨rfl, FB⟩
  · have HZ0 : (vcells zval).toArray.all (·.oneCell') = true := all_oneCell_toArray (by intro v hv; simp only [vcells, List.mem_cons, List.not_mem_nil, or_false] at hv; rcases hv with rfl | rfl | rfl <;> rfl)
    have T7 := B1.there 0 3 (Nat.le_refl _)
    have U1 := B1.whole (ds := vcells zval) rfl
    have U0 := Blk.setsOther (b := w.heap.size + 1) (by omega) (vcells zval) 0 B0
    have UB := below_sets (B := w.heap.size) (b := w.heap.size + 1) (by omega) (vcells zval) 0 hb
    clear B0 B1 hb
    go_enter Tryd.func46, Tryd.ntmps46
    go_wp2_with (first
      | (refine wpList_store_mid rfl 43 (.tmp 4) (.tmp 7) rfl (w.heap.size + 1) 0 (vcells zval).toArray rfl rfl T7 info_val HZ0 ?_
         simp only [Act.put]
         generalize hw3 : World.setCells _ (w.heap.size + 1) 0 (vcells zval).toArray.toList = w3
         have B0 : Blk w3 w.heap.size (vcells zval) := hw3 ▸ U0
         have B1 : Blk w3 (w.heap.size + 1) (vcells zval) := hw3 ▸ U1
         have hb : Below w.heap.size w w3 := hw3 ▸ UB
         clear hw3 T7 U0 U1 UB)
      | fail)
    refine (HIN.out _).mono ?_
    rintro e w1 ⟨rfl, hb1⟩
    replace B0 := B0.later hb1
    replace B1 := B1.later hb1
    replace hb := hb.trans (hb1.mono hb.size)
    clear hb1
    have HO : (vcells zval).toArray.all (·.oneCell') = true := all_oneCell_toArray (by intro v hv; simp only [vcells, List.mem_cons, List.not_mem_nil, or_false] at hv; rcases hv with rfl | rfl | rfl <;> rfl)
    have HOZ : (vcells zval).toArray.all (·.oneCell') = true := all_oneCell_toArray (by intro v hv; simp only [vcells, List.mem_cons, List.not_mem_nil, or_false] at hv; rcases hv with rfl | rfl | rfl <;> rfl)
    have S0 := B0
    have S1 := B1
    have EB := hb
    have R1 := S1.valR
    clear B0 B1 hb
    go_wp2_with (first
      | (refine wpList_load_mid rfl 43 (.tmp 4) rfl (w.heap.size + 1) 0 rfl (vcells zval) _ R1 hu rfl info_val ?_)
      | fail)
    refine (HSH.out _ EB).mono ?_
    rintro e w5 ⟨rfl, hb5⟩
    replace S0 := S0.later hb5
    replace S1 := S1.later hb5
    replace EB := EB.trans (hb5.mono EB.size)
    have T0 := S0.there 0 3 (Nat.le_refl _)
    replace R1 := S1.valR
    have F0 := S0.whole (ds := vcells zval) rfl
    have FB := below_sets (B := w.heap.size) (b := w.heap.size) (Nat.le_refl _) (vcells zval) 0 EB
    clear hb5 S0 S1 EB
    go_wp2_with (first
      | (refine wpList_store_mid rfl 43 (.tmp 2) (.tmp 36) rfl w.heap.size 0 (vcells zval).toArray rfl rfl T0 info_val HOZ ?_
         simp only [Act.put]
         generalize hw6 : World.setCells w5 w.heap.size 0 (vcells zval).toArray.toList = w6
         have e6 : World.setCells w5 w.heap.size 0 (vcells zval) = w6 := hw6
         rw [e6] at F0 FB
         clear hw6 e6 T0 R1)
      | fail)
    exact bodyPost_ret (v := .tuple #[.agg (vcells zval).toArray, .bool false]) (results_blk_tmp (p := 3) (q := 2) rfl _ _ w.heap.size (vcells zval) _ _ rfl rfl F0 hu rfl info_val) rfl ⟨rfl, FB⟩
end Go.Proofs.YtgdidamjgaegkaaDoor
