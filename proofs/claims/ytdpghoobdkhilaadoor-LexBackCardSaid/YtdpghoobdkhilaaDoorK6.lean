/- The document's Read: what it returns, by the way that it goes. -/
import Derived.Test.YtdpghoobdkhilaaDoorK4
import Derived.Test.YtdpghoobdkhilaaDoorK5
import Derived.Test.YtdpghoobdkhilaaDoorK1
namespace Go.Proofs.YtdpghoobdkhilaaDoor
set_option linter.unusedVariables false
open Go Go.RowKit BitM MskM ValM

set_option maxRecDepth 100000 in
set_option maxHeartbeats 3200000 in
theorem rread_1y (t : ByteArray) (w : World) (n : Int) (hp : pint t.data.toList 1099511627776 = (n, true)) (he : t = str (vshow (1, n, empty))) : Calls Tryd.prog 27 #[.string t] w fun e w' => e = .returned (.tuple #[.agg (vcells (1, n, empty)).toArray, .bool true]) ∧ Below w.heap.size w w' := by
  have hu := Tryd.underlying54
  have HIN := Lib.hid (fun wx : World => (show Calls Tryd.prog 25 #[.string t, .int .i64 1099511627776] wx fun e w' => e = .returned (.tuple #[.int .i64 (pint t.data.toList 1099511627776).1, .bool (pint t.data.toList 1099511627776).2]) ∧ Below wx.heap.size wx w' from
    (rint_any t 1099511627776 wx).mono fun e w' h => ⟨h.1, h.2 ▸ Below.refl _ _⟩))
  have HSH := Lib.hid (fun (wx : World) (hb : Below w.heap.size w wx) => (show Calls Tryd.prog 34 #[.agg (vcells (1, n, empty)).toArray] wx fun e w' => e = .returned (.string (str (vshow (1, n, empty)))) ∧ Below wx.heap.size wx w' from rvshow_any (1, n, empty) wx))
  rw [← he] at HSH
  clear he
  rw [hp] at HIN
  clear hp
  obtain ⟨W, hW, B0, B1, hb⟩ := two_news w
  subst hW
  have HZ0 : (vcells zval).toArray.all (·.oneCell') = true := all_oneCell_toArray (by intro v hv; simp only [vcells, List.mem_cons, List.not_mem_nil, or_false] at hv; rcases hv with rfl | rfl | rfl <;> rfl)
  have T7 := B1.there 0 3 (Nat.le_refl _)
  have U1 := B1.whole (ds := vcells zval) rfl
  have U0 := Blk.setsOther (b := w.heap.size + 1) (by omega) (vcells zval) 0 B0
  have UB := below_sets (B := w.heap.size) (b := w.heap.size + 1) (by omega) (vcells zval) 0 hb
  clear B0 B1 hb
  go_enter Tryd.func27, Tryd.ntmps27
  go_wp2_with (first
    | (refine wpList_store_mid rfl 54 (.tmp 4) (.tmp 7) rfl (w.heap.size + 1) 0 (vcells zval).toArray rfl rfl T7 info_val HZ0 ?_
       simp only [Act.put]
       generalize hw3 : World.setCells _ (w.heap.size + 1) 0 (vcells zval).toArray.toList = w3
       have B0 : Blk w3 w.heap.size (vcells zval) := hw3 ▸ U0
       have B1 : Blk w3 (w.heap.size + 1) (vcells zval) := hw3 ▸ U1
       have hb : Below w.heap.size w w3 := hw3 ▸ UB
       clear hw3 T7 U0 U1 UB)
    | fail)
  refine (HIN.out _).mono ?_
  rintro e w1 ⟨rfl, hb1⟩
  replace B0 := B0.later hb1
  replace B1 := B1.later hb1
  replace hb := hb.trans (hb1.mono hb.size)
  clear hb1
  have HO : (vcells (1, n, empty)).toArray.all (·.oneCell') = true := all_oneCell_toArray (by intro v hv; simp only [vcells, List.mem_cons, List.not_mem_nil, or_false] at hv; rcases hv with rfl | rfl | rfl <;> rfl)
  have HOZ : (vcells zval).toArray.all (·.oneCell') = true := all_oneCell_toArray (by intro v hv; simp only [vcells, List.mem_cons, List.not_mem_nil, or_false] at hv; rcases hv with rfl | rfl | rfl <;> rfl)
  have T1 := B1.there 0 3 (Nat.le_refl _)
  have S1 := B1.whole (ds := vcells (1, n, empty)) rfl
  have S0 := Blk.setsOther (b := w.heap.size + 1) (by omega) (vcells (1, n, empty)) 0 B0
  have EB := below_sets (B := w.heap.size) (b := w.heap.size + 1) (by omega) (vcells (1, n, empty)) 0 hb
  clear B0 B1 hb
  go_wp2_with (first
    | (refine wpList_store_mid rfl 54 (.tmp 4) (.tmp 15) rfl (w.heap.size + 1) 0 (vcells (1, n, empty)).toArray rfl rfl T1 info_val HO ?_
       simp only [Act.put]
       generalize hw4 : World.setCells w1 (w.heap.size + 1) 0 (vcells (1, n, empty)).toArray.toList = w4
       have e4 : World.setCells w1 (w.heap.size + 1) 0 (vcells (1, n, empty)) = w4 := hw4
       rw [e4] at S0 S1 EB
       clear hw4 e4 T1
       have R1 := S1.valR)
    | (refine wpList_load_mid rfl 54 (.tmp 4) rfl (w.heap.size + 1) 0 rfl (vcells (1, n, empty)) _ R1 hu rfl info_val ?_)
    | fail)
  refine (HSH.out _ EB).mono ?_
  rintro e w5 ⟨rfl, hb5⟩
  replace S0 := S0.later hb5
  replace S1 := S1.later hb5
  replace EB := EB.trans (hb5.mono EB.size)
  have T0 := S0.there 0 3 (Nat.le_refl _)
  replace R1 := S1.valR
  have F0 := S0.whole (ds := vcells (1, n, empty)) rfl
  have FB := below_sets (B := w.heap.size) (b := w.heap.size) (Nat.le_refl _) (vcells (1, n, empty)) 0 EB
  clear hb5 S0 S1 EB
  go_wp2_with (first
    | (refine wpList_load_mid rfl 54 (.tmp 4) rfl (w.heap.size + 1) 0 rfl (vcells (1, n, empty)) _ R1 hu rfl info_val ?_)
    | (refine wpList_store_mid rfl 54 (.tmp 2) (.tmp 37) rfl w.heap.size 0 (vcells (1, n, empty)).toArray rfl rfl T0 info_val HO ?_
       simp only [Act.put]
       generalize hw6 : World.setCells w5 w.heap.size 0 (vcells (1, n, empty)).toArray.toList = w6
       have e6 : World.setCells w5 w.heap.size 0 (vcells (1, n, empty)) = w6 := hw6
       rw [e6] at F0 FB
       clear hw6 e6 T0 R1)
    | fail)
  exact bodyPost_ret (v := .tuple #[.agg (vcells (1, n, empty)).toArray, .bool true]) (results_blk_tmp (p := 3) (q := 2) rfl _ _ w.heap.size (vcells (1, n, empty)) _ _ rfl rfl F0 hu rfl info_val) rfl ⟨rfl, FB⟩

set_option maxRecDepth 100000 in
set_option maxHeartbeats 3200000 in
theorem rread_1n (t : ByteArray) (w : World) (n : Int) (hp : pint t.data.toList 1099511627776 = (n, true)) (hneq : ((str (vshow (1, n, empty))).toList != t.toList) = true) : Calls Tryd.prog 27 #[.string t] w fun e w' => e = .returned (.tuple #[.agg (vcells zval).toArray, .bool false]) ∧ Below w.heap.size w w' := by
  have hu := Tryd.underlying54
  have HIN := Lib.hid (fun wx : World => (show Calls Tryd.prog 25 #[.string t, .int .i64 1099511627776] wx fun e w' => e = .returned (.tuple #[.int .i64 (pint t.data.toList 1099511627776).1, .bool (pint t.data.toList 1099511627776).2]) ∧ Below wx.heap.size wx w' from
    (rint_any t 1099511627776 wx).mono fun e w' h => ⟨h.1, h.2 ▸ Below.refl _ _⟩))
  have HSH := Lib.hid (fun (wx : World) (hb : Below w.heap.size w wx) => (show Calls Tryd.prog 34 #[.agg (vcells (1, n, empty)).toArray] wx fun e w' => e = .returned (.string (str (vshow (1, n, empty)))) ∧ Below wx.heap.size wx w' from rvshow_any (1, n, empty) wx))
  obtain ⟨su, hsu⟩ : ∃ su, su = str (vshow (1, n, empty)) := ⟨_, rfl⟩
  rw [← hsu] at HSH hneq
  have hneq2 : (su.toList == t.toList) = false := by simpa using hneq
  clear hsu
  rw [hp] at HIN
  clear hp
  obtain ⟨W, hW, B0, B1, hb⟩ := two_news w
  subst hW
  have HZ0 : (vcells zval).toArray.all (·.oneCell') = true := all_oneCell_toArray (by intro v hv; simp only [vcells, List.mem_cons, List.not_mem_nil, or_false] at hv; rcases hv with rfl | rfl | rfl <;> rfl)
  have T7 := B1.there 0 3 (Nat.le_refl _)
  have U1 := B1.whole (ds := vcells zval) rfl
  have U0 := Blk.setsOther (b := w.heap.size + 1) (by omega) (vcells zval) 0 B0
  have UB := below_sets (B := w.heap.size) (b := w.heap.size + 1) (by omega) (vcells zval) 0 hb
  clear B0 B1 hb
  go_enter Tryd.func27, Tryd.ntmps27
  go_wp2_with (first
    | (refine wpList_store_mid rfl 54 (.tmp 4) (.tmp 7) rfl (w.heap.size + 1) 0 (vcells zval).toArray rfl rfl T7 info_val HZ0 ?_
       simp only [Act.put]
       generalize hw3 : World.setCells _ (w.heap.size + 1) 0 (vcells zval).toArray.toList = w3
       have B0 : Blk w3 w.heap.size (vcells zval) := hw3 ▸ U0
       have B1 : Blk w3 (w.heap.size + 1) (vcells zval) := hw3 ▸ U1
       have hb : Below w.heap.size w w3 := hw3 ▸ UB
       clear hw3 T7 U0 U1 UB)
    | fail)
  refine (HIN.out _).mono ?_
  rintro e w1 ⟨rfl, hb1⟩
  replace B0 := B0.later hb1
  replace B1 := B1.later hb1
  replace hb := hb.trans (hb1.mono hb.size)
  clear hb1
  have HO : (vcells (1, n, empty)).toArray.all (·.oneCell') = true := all_oneCell_toArray (by intro v hv; simp only [vcells, List.mem_cons, List.not_mem_nil, or_false] at hv; rcases hv with rfl | rfl | rfl <;> rfl)
  have HOZ : (vcells zval).toArray.all (·.oneCell') = true := all_oneCell_toArray (by intro v hv; simp only [vcells, List.mem_cons, List.not_mem_nil, or_false] at hv; rcases hv with rfl | rfl | rfl <;> rfl)
  have T1 := B1.there 0 3 (Nat.le_refl _)
  have S1 := B1.whole (ds := vcells (1, n, empty)) rfl
  have S0 := Blk.setsOther (b := w.heap.size + 1) (by omega) (vcells (1, n, empty)) 0 B0
  have EB := below_sets (B := w.heap.size) (b := w.heap.size + 1) (by omega) (vcells (1, n, empty)) 0 hb
  clear B0 B1 hb
  go_wp2_with (first
    | (refine wpList_store_mid rfl 54 (.tmp 4) (.tmp 15) rfl (w.heap.size + 1) 0 (vcells (1, n, empty)).toArray rfl rfl T1 info_val HO ?_
       simp only [Act.put]
       generalize hw4 : World.setCells w1 (w.heap.size + 1) 0 (vcells (1, n, empty)).toArray.toList = w4
       have e4 : World.setCells w1 (w.heap.size + 1) 0 (vcells (1, n, empty)) = w4 := hw4
       rw [e4] at S0 S1 EB
       clear hw4 e4 T1
       have R1 := S1.valR)
    | (refine wpList_load_mid rfl 54 (.tmp 4) rfl (w.heap.size + 1) 0 rfl (vcells (1, n, empty)) _ R1 hu rfl info_val ?_)
    | fail)
  refine (HSH.out _ EB).mono ?_
  rintro e w5 ⟨rfl, hb5⟩
  replace S0 := S0.later hb5
  replace S1 := S1.later hb5
  replace EB := EB.trans (hb5.mono EB.size)
  have T0 := S0.there 0 3 (Nat.le_refl _)
  replace R1 := S1.valR
  have F0 := S0.whole (ds := vcells zval) rfl
  have FB := below_sets (B := w.heap.size) (b := w.heap.size) (Nat.le_refl _) (vcells zval) 0 EB
  clear hb5 S0 S1 EB
  go_wp2_with (first
    | (refine wpList_store_mid rfl 54 (.tmp 2) (.tmp 36) rfl w.heap.size 0 (vcells zval).toArray rfl rfl T0 info_val HOZ ?_
       simp only [Act.put]
       generalize hw6 : World.setCells w5 w.heap.size 0 (vcells zval).toArray.toList = w6
       have e6 : World.setCells w5 w.heap.size 0 (vcells zval) = w6 := hw6
       rw [e6] at F0 FB
       clear hw6 e6 T0 R1)
    | fail)
  exact bodyPost_ret (v := .tuple #[.agg (vcells zval).toArray, .bool false]) (results_blk_tmp (p := 3) (q := 2) rfl _ _ w.heap.size (vcells zval) _ _ rfl rfl F0 hu rfl info_val) rfl ⟨rfl, FB⟩

set_option maxRecDepth 100000 in
set_option maxHeartbeats 3200000 in
theorem rread_2y (t : ByteArray) (w : World) (p : ByteArray) (hp : (pint t.data.toList 1099511627776).2 = false) (hop : ∀ wx : World, Calls Tryd.prog 33 #[.string t] wx fun e w' => e = .returned (.string p) ∧ Below wx.heap.size wx w') (h1 : 1 < t.size) (h34 : t[0] = 34) (h98 : t.size ≤ 98) (he : t = str (vshow (2, 0, p))) : Calls Tryd.prog 27 #[.string t] w fun e w' => e = .returned (.tuple #[.agg (vcells (2, 0, p)).toArray, .bool true]) ∧ Below w.heap.size w w' := by
  have hu := Tryd.underlying54
  have HIN := Lib.hid (fun wx : World => (show Calls Tryd.prog 25 #[.string t, .int .i64 1099511627776] wx fun e w' => e = .returned (.tuple #[.int .i64 (pint t.data.toList 1099511627776).1, .bool (pint t.data.toList 1099511627776).2]) ∧ Below wx.heap.size wx w' from
    (rint_any t 1099511627776 wx).mono fun e w' h => ⟨h.1, h.2 ▸ Below.refl _ _⟩))
  have HSH := Lib.hid (fun (wx : World) (hb : Below w.heap.size w wx) => (show Calls Tryd.prog 34 #[.agg (vcells (2, 0, p)).toArray] wx fun e w' => e = .returned (.string (str (vshow (2, 0, p)))) ∧ Below wx.heap.size wx w' from rvshow_any (2, 0, p) wx))
  rw [← he] at HSH
  clear he
  rw [hp] at HIN
  obtain ⟨n0, hn0⟩ : ∃ n, n = (pint t.data.toList 1099511627776).1 := ⟨_, rfl⟩
  rw [← hn0] at HIN
  clear hp hn0
  have HOP := Lib.hid hop
  have n0 : ((t[0].toNat : Int) == 34) = true := by rw [h34]; rfl
  clear h34 hop
  obtain ⟨W, hW, B0, B1, hb⟩ := two_news w
  subst hW
  have HZ0 : (vcells zval).toArray.all (·.oneCell') = true := all_oneCell_toArray (by intro v hv; simp only [vcells, List.mem_cons, List.not_mem_nil, or_false] at hv; rcases hv with rfl | rfl | rfl <;> rfl)
  have T7 := B1.there 0 3 (Nat.le_refl _)
  have U1 := B1.whole (ds := vcells zval) rfl
  have U0 := Blk.setsOther (b := w.heap.size + 1) (by omega) (vcells zval) 0 B0
  have UB := below_sets (B := w.heap.size) (b := w.heap.size + 1) (by omega) (vcells zval) 0 hb
  clear B0 B1 hb
  go_enter Tryd.func27, Tryd.ntmps27
  go_wp2_with (first
    | (refine wpList_store_mid rfl 54 (.tmp 4) (.tmp 7) rfl (w.heap.size + 1) 0 (vcells zval).toArray rfl rfl T7 info_val HZ0 ?_
       simp only [Act.put]
       generalize hw3 : World.setCells _ (w.heap.size + 1) 0 (vcells zval).toArray.toList = w3
       have B0 : Blk w3 w.heap.size (vcells zval) := hw3 ▸ U0
       have B1 : Blk w3 (w.heap.size + 1) (vcells zval) := hw3 ▸ U1
       have hb : Below w.heap.size w w3 := hw3 ▸ UB
       clear hw3 T7 U0 U1 UB)
    | fail)
  refine (HIN.out _).mono ?_
  rintro e w1 ⟨rfl, hb1⟩
  replace B0 := B0.later hb1
  replace B1 := B1.later hb1
  replace hb := hb.trans (hb1.mono hb.size)
  clear hb1
  go_wp2_with fail
  refine (HOP.out _).mono ?_
  rintro e w2 ⟨rfl, hb1⟩
  replace B0 := B0.later hb1
  replace B1 := B1.later hb1
  replace hb := hb.trans (hb1.mono hb.size)
  clear hb1
  have HO : (vcells (2, 0, p)).toArray.all (·.oneCell') = true := all_oneCell_toArray (by intro v hv; simp only [vcells, List.mem_cons, List.not_mem_nil, or_false] at hv; rcases hv with rfl | rfl | rfl <;> rfl)
  have HOZ : (vcells zval).toArray.all (·.oneCell') = true := all_oneCell_toArray (by intro v hv; simp only [vcells, List.mem_cons, List.not_mem_nil, or_false] at hv; rcases hv with rfl | rfl | rfl <;> rfl)
  have T1 := B1.there 0 3 (Nat.le_refl _)
  have S1 := B1.whole (ds := vcells (2, 0, p)) rfl
  have S0 := Blk.setsOther (b := w.heap.size + 1) (by omega) (vcells (2, 0, p)) 0 B0
  have EB := below_sets (B := w.heap.size) (b := w.heap.size + 1) (by omega) (vcells (2, 0, p)) 0 hb
  clear B0 B1 hb
  go_wp2_with (first
    | (refine wpList_store_mid rfl 54 (.tmp 4) (.tmp 31) rfl (w.heap.size + 1) 0 (vcells (2, 0, p)).toArray rfl rfl T1 info_val HO ?_
       simp only [Act.put]
       generalize hw4 : World.setCells w2 (w.heap.size + 1) 0 (vcells (2, 0, p)).toArray.toList = w4
       have e4 : World.setCells w2 (w.heap.size + 1) 0 (vcells (2, 0, p)) = w4 := hw4
       rw [e4] at S0 S1 EB
       clear hw4 e4 T1
       have R1 := S1.valR)
    | (refine wpList_load_mid rfl 54 (.tmp 4) rfl (w.heap.size + 1) 0 rfl (vcells (2, 0, p)) _ R1 hu rfl info_val ?_)
    | fail)
  refine (HSH.out _ EB).mono ?_
  rintro e w5 ⟨rfl, hb5⟩
  replace S0 := S0.later hb5
  replace S1 := S1.later hb5
  replace EB := EB.trans (hb5.mono EB.size)
  have T0 := S0.there 0 3 (Nat.le_refl _)
  replace R1 := S1.valR
  have F0 := S0.whole (ds := vcells (2, 0, p)) rfl
  have FB := below_sets (B := w.heap.size) (b := w.heap.size) (Nat.le_refl _) (vcells (2, 0, p)) 0 EB
  clear hb5 S0 S1 EB
  go_wp2_with (first
    | (refine wpList_load_mid rfl 54 (.tmp 4) rfl (w.heap.size + 1) 0 rfl (vcells (2, 0, p)) _ R1 hu rfl info_val ?_)
    | (refine wpList_store_mid rfl 54 (.tmp 2) (.tmp 37) rfl w.heap.size 0 (vcells (2, 0, p)).toArray rfl rfl T0 info_val HO ?_
       simp only [Act.put]
       generalize hw6 : World.setCells w5 w.heap.size 0 (vcells (2, 0, p)).toArray.toList = w6
       have e6 : World.setCells w5 w.heap.size 0 (vcells (2, 0, p)) = w6 := hw6
       rw [e6] at F0 FB
       clear hw6 e6 T0 R1)
    | fail)
  exact bodyPost_ret (v := .tuple #[.agg (vcells (2, 0, p)).toArray, .bool true]) (results_blk_tmp (p := 3) (q := 2) rfl _ _ w.heap.size (vcells (2, 0, p)) _ _ rfl rfl F0 hu rfl info_val) rfl ⟨rfl, FB⟩

set_option maxRecDepth 100000 in
set_option maxHeartbeats 3200000 in
theorem rread_2n (t : ByteArray) (w : World) (hp : (pint t.data.toList 1099511627776).2 = false) (hop : ∀ wx : World, Calls Tryd.prog 33 #[.string t] wx fun e w' => (∃ p, e = .returned (.string p)) ∧ Below wx.heap.size wx w') (h1 : 1 < t.size) (h34 : t[0] = 34) (h98 : t.size ≤ 98) (hneqs : ∀ p : ByteArray, ((str (vshow (2, 0, p))).toList != t.toList) = true) : Calls Tryd.prog 27 #[.string t] w fun e w' => e = .returned (.tuple #[.agg (vcells zval).toArray, .bool false]) ∧ Below w.heap.size w w' := by
  have hu := Tryd.underlying54
  have HIN := Lib.hid (fun wx : World => (show Calls Tryd.prog 25 #[.string t, .int .i64 1099511627776] wx fun e w' => e = .returned (.tuple #[.int .i64 (pint t.data.toList 1099511627776).1, .bool (pint t.data.toList 1099511627776).2]) ∧ Below wx.heap.size wx w' from
    (rint_any t 1099511627776 wx).mono fun e w' h => ⟨h.1, h.2 ▸ Below.refl _ _⟩))
  have HNS := Lib.hid hneqs
  clear hneqs
  rw [hp] at HIN
  obtain ⟨n0, hn0⟩ : ∃ n, n = (pint t.data.toList 1099511627776).1 := ⟨_, rfl⟩
  rw [← hn0] at HIN
  clear hp hn0
  have HOP := Lib.hid hop
  have n0 : ((t[0].toNat : Int) == 34) = true := by rw [h34]; rfl
  clear h34 hop
  obtain ⟨W, hW, B0, B1, hb⟩ := two_news w
  subst hW
  have HZ0 : (vcells zval).toArray.all (·.oneCell') = true := all_oneCell_toArray (by intro v hv; simp only [vcells, List.mem_cons, List.not_mem_nil, or_false] at hv; rcases hv with rfl | rfl | rfl <;> rfl)
  have T7 := B1.there 0 3 (Nat.le_refl _)
  have U1 := B1.whole (ds := vcells zval) rfl
  have U0 := Blk.setsOther (b := w.heap.size + 1) (by omega) (vcells zval) 0 B0
  have UB := below_sets (B := w.heap.size) (b := w.heap.size + 1) (by omega) (vcells zval) 0 hb
  clear B0 B1 hb
  go_enter Tryd.func27, Tryd.ntmps27
  go_wp2_with (first
    | (refine wpList_store_mid rfl 54 (.tmp 4) (.tmp 7) rfl (w.heap.size + 1) 0 (vcells zval).toArray rfl rfl T7 info_val HZ0 ?_
       simp only [Act.put]
       generalize hw3 : World.setCells _ (w.heap.size + 1) 0 (vcells zval).toArray.toList = w3
       have B0 : Blk w3 w.heap.size (vcells zval) := hw3 ▸ U0
       have B1 : Blk w3 (w.heap.size + 1) (vcells zval) := hw3 ▸ U1
       have hb : Below w.heap.size w w3 := hw3 ▸ UB
       clear hw3 T7 U0 U1 UB)
    | fail)
  refine (HIN.out _).mono ?_
  rintro e w1 ⟨rfl, hb1⟩
  replace B0 := B0.later hb1
  replace B1 := B1.later hb1
  replace hb := hb.trans (hb1.mono hb.size)
  clear hb1
  go_wp2_with fail
  refine (HOP.out _).mono ?_
  rintro e w2 ⟨⟨p, rfl⟩, hb1⟩
  replace B0 := B0.later hb1
  replace B1 := B1.later hb1
  replace hb := hb.trans (hb1.mono hb.size)
  clear hb1
  have HSH := Lib.hid (fun (wx : World) (hb : Below w.heap.size w wx) => (show Calls Tryd.prog 34 #[.agg (vcells (2, 0, p)).toArray] wx fun e w' => e = .returned (.string (str (vshow (2, 0, p)))) ∧ Below wx.heap.size wx w' from rvshow_any (2, 0, p) wx))
  have hneq := HNS.out p
  obtain ⟨su, hsu⟩ : ∃ su, su = str (vshow (2, 0, p)) := ⟨_, rfl⟩
  rw [← hsu] at HSH hneq
  have hneq2 : (su.toList == t.toList) = false := by simpa using hneq
  clear hsu
  have HO : (vcells (2, 0, p)).toArray.all (·.oneCell') = true := all_oneCell_toArray (by intro v hv; simp only [vcells, List.mem_cons, List.not_mem_nil, or_false] at hv; rcases hv with rfl | rfl | rfl <;> rfl)
  have HOZ : (vcells zval).toArray.all (·.oneCell') = true := all_oneCell_toArray (by intro v hv; simp only [vcells, List.mem_cons, List.not_mem_nil, or_false] at hv; rcases hv with rfl | rfl | rfl <;> rfl)
  have T1 := B1.there 0 3 (Nat.le_refl _)
  have S1 := B1.whole (ds := vcells (2, 0, p)) rfl
  have S0 := Blk.setsOther (b := w.heap.size + 1) (by omega) (vcells (2, 0, p)) 0 B0
  have EB := below_sets (B := w.heap.size) (b := w.heap.size + 1) (by omega) (vcells (2, 0, p)) 0 hb
  clear B0 B1 hb
  go_wp2_with (first
    | (refine wpList_store_mid rfl 54 (.tmp 4) (.tmp 31) rfl (w.heap.size + 1) 0 (vcells (2, 0, p)).toArray rfl rfl T1 info_val HO ?_
       simp only [Act.put]
       generalize hw4 : World.setCells w2 (w.heap.size + 1) 0 (vcells (2, 0, p)).toArray.toList = w4
       have e4 : World.setCells w2 (w.heap.size + 1) 0 (vcells (2, 0, p)) = w4 := hw4
       rw [e4] at S0 S1 EB
       clear hw4 e4 T1
       have R1 := S1.valR)
    | (refine wpList_load_mid rfl 54 (.tmp 4) rfl (w.heap.size + 1) 0 rfl (vcells (2, 0, p)) _ R1 hu rfl info_val ?_)
    | fail)
  refine (HSH.out _ EB).mono ?_
  rintro e w5 ⟨rfl, hb5⟩
  replace S0 := S0.later hb5
  replace S1 := S1.later hb5
  replace EB := EB.trans (hb5.mono EB.size)
  have T0 := S0.there 0 3 (Nat.le_refl _)
  replace R1 := S1.valR
  have F0 := S0.whole (ds := vcells zval) rfl
  have FB := below_sets (B := w.heap.size) (b := w.heap.size) (Nat.le_refl _) (vcells zval) 0 EB
  clear hb5 S0 S1 EB
  go_wp2_with (first
    | (refine wpList_store_mid rfl 54 (.tmp 2) (.tmp 36) rfl w.heap.size 0 (vcells zval).toArray rfl rfl T0 info_val HOZ ?_
       simp only [Act.put]
       generalize hw6 : World.setCells w5 w.heap.size 0 (vcells zval).toArray.toList = w6
       have e6 : World.setCells w5 w.heap.size 0 (vcells zval) = w6 := hw6
       rw [e6] at F0 FB
       clear hw6 e6 T0 R1)
    | fail)
  exact bodyPost_ret (v := .tuple #[.agg (vcells zval).toArray, .bool false]) (results_blk_tmp (p := 3) (q := 2) rfl _ _ w.heap.size (vcells zval) _ _ rfl rfl F0 hu rfl info_val) rfl ⟨rfl, FB⟩

set_option maxRecDepth 100000 in
set_option maxHeartbeats 3200000 in
theorem rread_3y (t : ByteArray) (w : World) (hp : (pint t.data.toList 1099511627776).2 = false) (hno : ¬ (1 < t.size ∧ (∃ h : 0 < t.size, t[0] = 34) ∧ t.size ≤ 98)) (he : t = str (vshow zval)) : Calls Tryd.prog 27 #[.string t] w fun e w' => e = .returned (.tuple #[.agg (vcells zval).toArray, .bool true]) ∧ Below w.heap.size w w' := by
  have hu := Tryd.underlying54
  have HIN := Lib.hid (fun wx : World => (show Calls Tryd.prog 25 #[.string t, .int .i64 1099511627776] wx fun e w' => e = .returned (.tuple #[.int .i64 (pint t.data.toList 1099511627776).1, .bool (pint t.data.toList 1099511627776).2]) ∧ Below wx.heap.size wx w' from
    (rint_any t 1099511627776 wx).mono fun e w' h => ⟨h.1, h.2 ▸ Below.refl _ _⟩))
  have HSH := Lib.hid (fun (wx : World) (hb : Below w.heap.size w wx) => (show Calls Tryd.prog 34 #[.agg (vcells zval).toArray] wx fun e w' => e = .returned (.string (str (vshow zval))) ∧ Below wx.heap.size wx w' from rvshow_any zval wx))
  rw [← he] at HSH
  clear he
  rw [hp] at HIN
  obtain ⟨n0, hn0⟩ : ∃ n, n = (pint t.data.toList 1099511627776).1 := ⟨_, rfl⟩
  rw [← hn0] at HIN
  clear hp hn0
  obtain ⟨W, hW, B0, B1, hb⟩ := two_news w
  subst hW
  have key : (¬ (1 : Int) < (t.size : Int)) ∨ (∃ h : 1 < t.size, ((t[0].toNat : Int) == 34) = false) ∨ (∃ h : 1 < t.size, ((t[0].toNat : Int) == 34) = true ∧ ¬ (t.size : Int) ≤ 98) := by
    by_cases h1 : 1 < t.size
    · by_cases h2 : t[0] = 34
      · right; right
        refine ⟨h1, by rw [h2]; rfl, ?_⟩
        intro h3
        exact hno ⟨h1, ⟨by omega, h2⟩, by omega⟩
      · right; left
        refine ⟨h1, ?_⟩
        rw [beq_eq_false_iff_ne]; intro e; exact h2 (UInt8.toNat_inj.1 (Int.ofNat_inj.1 e))
    · left; omega
  clear hno
  rcases key with k1 | ⟨k1, k2⟩ | ⟨k1, k2, k3⟩
  · have HZ0 : (vcells zval).toArray.all (·.oneCell') = true := all_oneCell_toArray (by intro v hv; simp only [vcells, List.mem_cons, List.not_mem_nil, or_false] at hv; rcases hv with rfl | rfl | rfl <;> rfl)
    have T7 := B1.there 0 3 (Nat.le_refl _)
    have U1 := B1.whole (ds := vcells zval) rfl
    have U0 := Blk.setsOther (b := w.heap.size + 1) (by omega) (vcells zval) 0 B0
    have UB := below_sets (B := w.heap.size) (b := w.heap.size + 1) (by omega) (vcells zval) 0 hb
    clear B0 B1 hb
    go_enter Tryd.func27, Tryd.ntmps27
    go_wp2_with (first
      | (refine wpList_store_mid rfl 54 (.tmp 4) (.tmp 7) rfl (w.heap.size + 1) 0 (vcells zval).toArray rfl rfl T7 info_val HZ0 ?_
         simp only [Act.put]
         generalize hw3 : World.setCells _ (w.heap.size + 1) 0 (vcells zval).toArray.toList = w3
         have B0 : Blk w3 w.heap.size (vcells zval) := hw3 ▸ U0
         have B1 : Blk w3 (w.heap.size + 1) (vcells zval) := hw3 ▸ U1
         have hb : Below w.heap.size w w3 := hw3 ▸ UB
         clear hw3 T7 U0 U1 UB)
      | fail)
    refine (HIN.out _).mono ?_
    rintro e w1 ⟨rfl, hb1⟩
    replace B0 := B0.later hb1
    replace B1 := B1.later hb1
    replace hb := hb.trans (hb1.mono hb.size)
    clear hb1
    have HO : (vcells zval).toArray.all (·.oneCell') = true := all_oneCell_toArray (by intro v hv; simp only [vcells, List.mem_cons, List.not_mem_nil, or_false] at hv; rcases hv with rfl | rfl | rfl <;> rfl)
    have HOZ : (vcells zval).toArray.all (·.oneCell') = true := all_oneCell_toArray (by intro v hv; simp only [vcells, List.mem_cons, List.not_mem_nil, or_false] at hv; rcases hv with rfl | rfl | rfl <;> rfl)
    have S0 := B0
    have S1 := B1
    have EB := hb
    have R1 := S1.valR
    clear B0 B1 hb
    go_wp2_with (first
      | (refine wpList_load_mid rfl 54 (.tmp 4) rfl (w.heap.size + 1) 0 rfl (vcells zval) _ R1 hu rfl info_val ?_)
      | fail)
    refine (HSH.out _ EB).mono ?_
    rintro e w5 ⟨rfl, hb5⟩
    replace S0 := S0.later hb5
    replace S1 := S1.later hb5
    replace EB := EB.trans (hb5.mono EB.size)
    have T0 := S0.there 0 3 (Nat.le_refl _)
    replace R1 := S1.valR
    have F0 := S0.whole (ds := vcells zval) rfl
    have FB := below_sets (B := w.heap.size) (b := w.heap.size) (Nat.le_refl _) (vcells zval) 0 EB
    clear hb5 S0 S1 EB
    go_wp2_with (first
      | (refine wpList_load_mid rfl 54 (.tmp 4) rfl (w.heap.size + 1) 0 rfl (vcells zval) _ R1 hu rfl info_val ?_)
      | (refine wpList_store_mid rfl 54 (.tmp 2) (.tmp 37) rfl w.heap.size 0 (vcells zval).toArray rfl rfl T0 info_val HO ?_
         simp only [Act.put]
         generalize hw6 : World.setCells w5 w.heap.size 0 (vcells zval).toArray.toList = w6
         have e6 : World.setCells w5 w.heap.size 0 (vcells zval) = w6 := hw6
         rw [e6] at F0 FB
         clear hw6 e6 T0 R1)
      | fail)
    exact bodyPost_ret (v := .tuple #[.agg (vcells zval).toArray, .bool true]) (results_blk_tmp (p := 3) (q := 2) rfl _ _ w.heap.size (vcells zval) _ _ rfl rfl F0 hu rfl info_val) rfl ⟨rfl, FB⟩
  · have HZ0 : (vcells zval).toArray.all (·.oneCell') = true := all_oneCell_toArray (by intro v hv; simp only [vcells, List.mem_cons, List.not_mem_nil, or_false] at hv; rcases hv with rfl | rfl | rfl <;> rfl)
    have T7 := B1.there 0 3 (Nat.le_refl _)
    have U1 := B1.whole (ds := vcells zval) rfl
    have U0 := Blk.setsOther (b := w.heap.size + 1) (by omega) (vcells zval) 0 B0
    have UB := below_sets (B := w.heap.size) (b := w.heap.size + 1) (by omega) (vcells zval) 0 hb
    clear B0 B1 hb
    go_enter Tryd.func27, Tryd.ntmps27
    go_wp2_with (first
      | (refine wpList_store_mid rfl 54 (.tmp 4) (.tmp 7) rfl (w.heap.size + 1) 0 (vcells zval).toArray rfl rfl T7 info_val HZ0 ?_
         simp only [Act.put]
         generalize hw3 : World.setCells _ (w.heap.size + 1) 0 (vcells zval).toArray.toList = w3
         have B0 : Blk w3 w.heap.size (vcells zval) := hw3 ▸ U0
         have B1 : Blk w3 (w.heap.size + 1) (vcells zval) := hw3 ▸ U1
         have hb : Below w.heap.size w w3 := hw3 ▸ UB
         clear hw3 T7 U0 U1 UB)
      | fail)
    refine (HIN.out _).mono ?_
    rintro e w1 ⟨rfl, hb1⟩
    replace B0 := B0.later hb1
    replace B1 := B1.later hb1
    replace hb := hb.trans (hb1.mono hb.size)
    clear hb1
    have HO : (vcells zval).toArray.all (·.oneCell') = true := all_oneCell_toArray (by intro v hv; simp only [vcells, List.mem_cons, List.not_mem_nil, or_false] at hv; rcases hv with rfl | rfl | rfl <;> rfl)
    have HOZ : (vcells zval).toArray.all (·.oneCell') = true := all_oneCell_toArray (by intro v hv; simp only [vcells, List.mem_cons, List.not_mem_nil, or_false] at hv; rcases hv with rfl | rfl | rfl <;> rfl)
    have S0 := B0
    have S1 := B1
    have EB := hb
    have R1 := S1.valR
    clear B0 B1 hb
    go_wp2_with (first
      | (refine wpList_load_mid rfl 54 (.tmp 4) rfl (w.heap.size + 1) 0 rfl (vcells zval) _ R1 hu rfl info_val ?_)
      | fail)
    refine (HSH.out _ EB).mono ?_
    rintro e w5 ⟨rfl, hb5⟩
    replace S0 := S0.later hb5
    replace S1 := S1.later hb5
    replace EB := EB.trans (hb5.mono EB.size)
    have T0 := S0.there 0 3 (Nat.le_refl _)
    replace R1 := S1.valR
    have F0 := S0.whole (ds := vcells zval) rfl
    have FB := below_sets (B := w.heap.size) (b := w.heap.size) (Nat.le_refl _) (vcells zval) 0 EB
    clear hb5 S0 S1 EB
    go_wp2_with (first
      | (refine wpList_load_mid rfl 54 (.tmp 4) rfl (w.heap.size + 1) 0 rfl (vcells zval) _ R1 hu rfl info_val ?_)
      | (refine wpList_store_mid rfl 54 (.tmp 2) (.tmp 37) rfl w.heap.size 0 (vcells zval).toArray rfl rfl T0 info_val HO ?_
         simp only [Act.put]
         generalize hw6 : World.setCells w5 w.heap.size 0 (vcells zval).toArray.toList = w6
         have e6 : World.setCells w5 w.heap.size 0 (vcells zval) = w6 := hw6
         rw [e6] at F0 FB
         clear hw6 e6 T0 R1)
      | fail)
    exact bodyPost_ret (v := .tuple #[.agg (vcells zval).toArray, .bool true]) (results_blk_tmp (p := 3) (q := 2) rfl _ _ w.heap.size (vcells zval) _ _ rfl rfl F0 hu rfl info_val) rfl ⟨rfl, FB⟩
  · have HZ0 : (vcells zval).toArray.all (·.oneCell') = true := all_oneCell_toArray (by intro v hv; simp only [vcells, List.mem_cons, List.not_mem_nil, or_false] at hv; rcases hv with rfl | rfl | rfl <;> rfl)
    have T7 := B1.there 0 3 (Nat.le_refl _)
    have U1 := B1.whole (ds := vcells zval) rfl
    have U0 := Blk.setsOther (b := w.heap.size + 1) (by omega) (vcells zval) 0 B0
    have UB := below_sets (B := w.heap.size) (b := w.heap.size + 1) (by omega) (vcells zval) 0 hb
    clear B0 B1 hb
    go_enter Tryd.func27, Tryd.ntmps27
    go_wp2_with (first
      | (refine wpList_store_mid rfl 54 (.tmp 4) (.tmp 7) rfl (w.heap.size + 1) 0 (vcells zval).toArray rfl rfl T7 info_val HZ0 ?_
         simp only [Act.put]
         generalize hw3 : World.setCells _ (w.heap.size + 1) 0 (vcells zval).toArray.toList = w3
         have B0 : Blk w3 w.heap.size (vcells zval) := hw3 ▸ U0
         have B1 : Blk w3 (w.heap.size + 1) (vcells zval) := hw3 ▸ U1
         have hb : Below w.heap.size w w3 := hw3 ▸ UB
         clear hw3 T7 U0 U1 UB)
      | fail)
    refine (HIN.out _).mono ?_
    rintro e w1 ⟨rfl, hb1⟩
    replace B0 := B0.later hb1
    replace B1 := B1.later hb1
    replace hb := hb.trans (hb1.mono hb.size)
    clear hb1
    have HO : (vcells zval).toArray.all (·.oneCell') = true := all_oneCell_toArray (by intro v hv; simp only [vcells, List.mem_cons, List.not_mem_nil, or_false] at hv; rcases hv with rfl | rfl | rfl <;> rfl)
    have HOZ : (vcells zval).toArray.all (·.oneCell') = true := all_oneCell_toArray (by intro v hv; simp only [vcells, List.mem_cons, List.not_mem_nil, or_false] at hv; rcases hv with rfl | rfl | rfl <;> rfl)
    have S0 := B0
    have S1 := B1
    have EB := hb
    have R1 := S1.valR
    clear B0 B1 hb
    go_wp2_with (first
      | (refine wpList_load_mid rfl 54 (.tmp 4) rfl (w.heap.size + 1) 0 rfl (vcells zval) _ R1 hu rfl info_val ?_)
      | fail)
    refine (HSH.out _ EB).mono ?_
    rintro e w5 ⟨rfl, hb5⟩
    replace S0 := S0.later hb5
    replace S1 := S1.later hb5
    replace EB := EB.trans (hb5.mono EB.size)
    have T0 := S0.there 0 3 (Nat.le_refl _)
    replace R1 := S1.valR
    have F0 := S0.whole (ds := vcells zval) rfl
    have FB := below_sets (B := w.heap.size) (b := w.heap.size) (Nat.le_refl _) (vcells zval) 0 EB
    clear hb5 S0 S1 EB
    go_wp2_with (first
      | (refine wpList_load_mid rfl 54 (.tmp 4) rfl (w.heap.size + 1) 0 rfl (vcells zval) _ R1 hu rfl info_val ?_)
      | (refine wpList_store_mid rfl 54 (.tmp 2) (.tmp 37) rfl w.heap.size 0 (vcells zval).toArray rfl rfl T0 info_val HO ?_
         simp only [Act.put]
         generalize hw6 : World.setCells w5 w.heap.size 0 (vcells zval).toArray.toList = w6
         have e6 : World.setCells w5 w.heap.size 0 (vcells zval) = w6 := hw6
         rw [e6] at F0 FB
         clear hw6 e6 T0 R1)
      | fail)
    exact bodyPost_ret (v := .tuple #[.agg (vcells zval).toArray, .bool true]) (results_blk_tmp (p := 3) (q := 2) rfl _ _ w.heap.size (vcells zval) _ _ rfl rfl F0 hu rfl info_val) rfl ⟨rfl, FB⟩

set_option maxRecDepth 100000 in
set_option maxHeartbeats 3200000 in
theorem rread_3n (t : ByteArray) (w : World) (hp : (pint t.data.toList 1099511627776).2 = false) (hno : ¬ (1 < t.size ∧ (∃ h : 0 < t.size, t[0] = 34) ∧ t.size ≤ 98)) (hneq : ((str (vshow zval)).toList != t.toList) = true) : Calls Tryd.prog 27 #[.string t] w fun e w' => e = .returned (.tuple #[.agg (vcells zval).toArray, .bool false]) ∧ Below w.heap.size w w' := by
  have hu := Tryd.underlying54
  have HIN := Lib.hid (fun wx : World => (show Calls Tryd.prog 25 #[.string t, .int .i64 1099511627776] wx fun e w' => e = .returned (.tuple #[.int .i64 (pint t.data.toList 1099511627776).1, .bool (pint t.data.toList 1099511627776).2]) ∧ Below wx.heap.size wx w' from
    (rint_any t 1099511627776 wx).mono fun e w' h => ⟨h.1, h.2 ▸ Below.refl _ _⟩))
  have HSH := Lib.hid (fun (wx : World) (hb : Below w.heap.size w wx) => (show Calls Tryd.prog 34 #[.agg (vcells zval).toArray] wx fun e w' => e = .returned (.string (str (vshow zval))) ∧ Below wx.heap.size wx w' from rvshow_any zval wx))
  obtain ⟨su, hsu⟩ : ∃ su, su = str (vshow zval) := ⟨_, rfl⟩
  rw [← hsu] at HSH hneq
  have hneq2 : (su.toList == t.toList) = false := by simpa using hneq
  clear hsu
  rw [hp] at HIN
  obtain ⟨n0, hn0⟩ : ∃ n, n = (pint t.data.toList 1099511627776).1 := ⟨_, rfl⟩
  rw [← hn0] at HIN
  clear hp hn0
  obtain ⟨W, hW, B0, B1, hb⟩ := two_news w
  subst hW
  have key : (¬ (1 : Int) < (t.size : Int)) ∨ (∃ h : 1 < t.size, ((t[0].toNat : Int) == 34) = false) ∨ (∃ h : 1 < t.size, ((t[0].toNat : Int) == 34) = true ∧ ¬ (t.size : Int) ≤ 98) := by
    by_cases h1 : 1 < t.size
    · by_cases h2 : t[0] = 34
      · right; right
        refine ⟨h1, by rw [h2]; rfl, ?_⟩
        intro h3
        exact hno ⟨h1, ⟨by omega, h2⟩, by omega⟩
      · right; left
        refine ⟨h1, ?_⟩
        rw [beq_eq_false_iff_ne]; intro e; exact h2 (UInt8.toNat_inj.1 (Int.ofNat_inj.1 e))
    · left; omega
  clear hno
  rcases key with k1 | ⟨k1, k2⟩ | ⟨k1, k2, k3⟩
  · have HZ0 : (vcells zval).toArray.all (·.oneCell') = true := all_oneCell_toArray (by intro v hv; simp only [vcells, List.mem_cons, List.not_mem_nil, or_false] at hv; rcases hv with rfl | rfl | rfl <;> rfl)
    have T7 := B1.there 0 3 (Nat.le_refl _)
    have U1 := B1.whole (ds := vcells zval) rfl
    have U0 := Blk.setsOther (b := w.heap.size + 1) (by omega) (vcells zval) 0 B0
    have UB := below_sets (B := w.heap.size) (b := w.heap.size + 1) (by omega) (vcells zval) 0 hb
    clear B0 B1 hb
    go_enter Tryd.func27, Tryd.ntmps27
    go_wp2_with (first
      | (refine wpList_store_mid rfl 54 (.tmp 4) (.tmp 7) rfl (w.heap.size + 1) 0 (vcells zval).toArray rfl rfl T7 info_val HZ0 ?_
         simp only [Act.put]
         generalize hw3 : World.setCells _ (w.heap.size + 1) 0 (vcells zval).toArray.toList = w3
         have B0 : Blk w3 w.heap.size (vcells zval) := hw3 ▸ U0
         have B1 : Blk w3 (w.heap.size + 1) (vcells zval) := hw3 ▸ U1
         have hb : Below w.heap.size w w3 := hw3 ▸ UB
         clear hw3 T7 U0 U1 UB)
      | fail)
    refine (HIN.out _).mono ?_
    rintro e w1 ⟨rfl, hb1⟩
    replace B0 := B0.later hb1
    replace B1 := B1.later hb1
    replace hb := hb.trans (hb1.mono hb.size)
    clear hb1
    have HO : (vcells zval).toArray.all (·.oneCell') = true := all_oneCell_toArray (by intro v hv; simp only [vcells, List.mem_cons, List.not_mem_nil, or_false] at hv; rcases hv with rfl | rfl | rfl <;> rfl)
    have HOZ : (vcells zval).toArray.all (·.oneCell') = true := all_oneCell_toArray (by intro v hv; simp only [vcells, List.mem_cons, List.not_mem_nil, or_false] at hv; rcases hv with rfl | rfl | rfl <;> rfl)
    have S0 := B0
    have S1 := B1
    have EB := hb
    have R1 := S1.valR
    clear B0 B1 hb
    go_wp2_with (first
      | (refine wpList_load_mid rfl 54 (.tmp 4) rfl (w.heap.size + 1) 0 rfl (vcells zval) _ R1 hu rfl info_val ?_)
      | fail)
    refine (HSH.out _ EB).mono ?_
    rintro e w5 ⟨rfl, hb5⟩
    replace S0 := S0.later hb5
    replace S1 := S1.later hb5
    replace EB := EB.trans (hb5.mono EB.size)
    have T0 := S0.there 0 3 (Nat.le_refl _)
    replace R1 := S1.valR
    have F0 := S0.whole (ds := vcells zval) rfl
    have FB := below_sets (B := w.heap.size) (b := w.heap.size) (Nat.le_refl _) (vcells zval) 0 EB
    clear hb5 S0 S1 EB
    go_wp2_with (first
      | (refine wpList_store_mid rfl 54 (.tmp 2) (.tmp 36) rfl w.heap.size 0 (vcells zval).toArray rfl rfl T0 info_val HOZ ?_
         simp only [Act.put]
         generalize hw6 : World.setCells w5 w.heap.size 0 (vcells zval).toArray.toList = w6
         have e6 : World.setCells w5 w.heap.size 0 (vcells zval) = w6 := hw6
         rw [e6] at F0 FB
         clear hw6 e6 T0 R1)
      | fail)
    exact bodyPost_ret (v := .tuple #[.agg (vcells zval).toArray, .bool false]) (results_blk_tmp (p := 3) (q := 2) rfl _ _ w.heap.size (vcells zval) _ _ rfl rfl F0 hu rfl info_val) rfl ⟨rfl, FB⟩
  · have HZ0 : (vcells zval).toArray.all (·.oneCell') = true := all_oneCell_toArray (by intro v hv; simp only [vcells, List.mem_cons, List.not_mem_nil, or_false] at hv; rcases hv with rfl | rfl | rfl <;> rfl)
    have T7 := B1.there 0 3 (Nat.le_refl _)
    have U1 := B1.whole (ds := vcells zval) rfl
    have U0 := Blk.setsOther (b := w.heap.size + 1) (by omega) (vcells zval) 0 B0
    have UB := below_sets (B := w.heap.size) (b := w.heap.size + 1) (by omega) (vcells zval) 0 hb
    clear B0 B1 hb
    go_enter Tryd.func27, Tryd.ntmps27
    go_wp2_with (first
      | (refine wpList_store_mid rfl 54 (.tmp 4) (.tmp 7) rfl (w.heap.size + 1) 0 (vcells zval).toArray rfl rfl T7 info_val HZ0 ?_
         simp only [Act.put]
         generalize hw3 : World.setCells _ (w.heap.size + 1) 0 (vcells zval).toArray.toList = w3
         have B0 : Blk w3 w.heap.size (vcells zval) := hw3 ▸ U0
         have B1 : Blk w3 (w.heap.size + 1) (vcells zval) := hw3 ▸ U1
         have hb : Below w.heap.size w w3 := hw3 ▸ UB
         clear hw3 T7 U0 U1 UB)
      | fail)
    refine (HIN.out _).mono ?_
    rintro e w1 ⟨rfl, hb1⟩
    replace B0 := B0.later hb1
    replace B1 := B1.later hb1
    replace hb := hb.trans (hb1.mono hb.size)
    clear hb1
    have HO : (vcells zval).toArray.all (·.oneCell') = true := all_oneCell_toArray (by intro v hv; simp only [vcells, List.mem_cons, List.not_mem_nil, or_false] at hv; rcases hv with rfl | rfl | rfl <;> rfl)
    have HOZ : (vcells zval).toArray.all (·.oneCell') = true := all_oneCell_toArray (by intro v hv; simp only [vcells, List.mem_cons, List.not_mem_nil, or_false] at hv; rcases hv with rfl | rfl | rfl <;> rfl)
    have S0 := B0
    have S1 := B1
    have EB := hb
    have R1 := S1.valR
    clear B0 B1 hb
    go_wp2_with (first
      | (refine wpList_load_mid rfl 54 (.tmp 4) rfl (w.heap.size + 1) 0 rfl (vcells zval) _ R1 hu rfl info_val ?_)
      | fail)
    refine (HSH.out _ EB).mono ?_
    rintro e w5 ⟨rfl, hb5⟩
    replace S0 := S0.later hb5
    replace S1 := S1.later hb5
    replace EB := EB.trans (hb5.mono EB.size)
    have T0 := S0.there 0 3 (Nat.le_refl _)
    replace R1 := S1.valR
    have F0 := S0.whole (ds := vcells zval) rfl
    have FB := below_sets (B := w.heap.size) (b := w.heap.size) (Nat.le_refl _) (vcells zval) 0 EB
    clear hb5 S0 S1 EB
    go_wp2_with (first
      | (refine wpList_store_mid rfl 54 (.tmp 2) (.tmp 36) rfl w.heap.size 0 (vcells zval).toArray rfl rfl T0 info_val HOZ ?_
         simp only [Act.put]
         generalize hw6 : World.setCells w5 w.heap.size 0 (vcells zval).toArray.toList = w6
         have e6 : World.setCells w5 w.heap.size 0 (vcells zval) = w6 := hw6
         rw [e6] at F0 FB
         clear hw6 e6 T0 R1)
      | fail)
    exact bodyPost_ret (v := .tuple #[.agg (vcells zval).toArray, .bool false]) (results_blk_tmp (p := 3) (q := 2) rfl _ _ w.heap.size (vcells zval) _ _ rfl rfl F0 hu rfl info_val) rfl ⟨rfl, FB⟩
  · have HZ0 : (vcells zval).toArray.all (·.oneCell') = true := all_oneCell_toArray (by intro v hv; simp only [vcells, List.mem_cons, List.not_mem_nil, or_false] at hv; rcases hv with rfl | rfl | rfl <;> rfl)
    have T7 := B1.there 0 3 (Nat.le_refl _)
    have U1 := B1.whole (ds := vcells zval) rfl
    have U0 := Blk.setsOther (b := w.heap.size + 1) (by omega) (vcells zval) 0 B0
    have UB := below_sets (B := w.heap.size) (b := w.heap.size + 1) (by omega) (vcells zval) 0 hb
    clear B0 B1 hb
    go_enter Tryd.func27, Tryd.ntmps27
    go_wp2_with (first
      | (refine wpList_store_mid rfl 54 (.tmp 4) (.tmp 7) rfl (w.heap.size + 1) 0 (vcells zval).toArray rfl rfl T7 info_val HZ0 ?_
         simp only [Act.put]
         generalize hw3 : World.setCells _ (w.heap.size + 1) 0 (vcells zval).toArray.toList = w3
         have B0 : Blk w3 w.heap.size (vcells zval) := hw3 ▸ U0
         have B1 : Blk w3 (w.heap.size + 1) (vcells zval) := hw3 ▸ U1
         have hb : Below w.heap.size w w3 := hw3 ▸ UB
         clear hw3 T7 U0 U1 UB)
      | fail)
    refine (HIN.out _).mono ?_
    rintro e w1 ⟨rfl, hb1⟩
    replace B0 := B0.later hb1
    replace B1 := B1.later hb1
    replace hb := hb.trans (hb1.mono hb.size)
    clear hb1
    have HO : (vcells zval).toArray.all (·.oneCell') = true := all_oneCell_toArray (by intro v hv; simp only [vcells, List.mem_cons, List.not_mem_nil, or_false] at hv; rcases hv with rfl | rfl | rfl <;> rfl)
    have HOZ : (vcells zval).toArray.all (·.oneCell') = true := all_oneCell_toArray (by intro v hv; simp only [vcells, List.mem_cons, List.not_mem_nil, or_false] at hv; rcases hv with rfl | rfl | rfl <;> rfl)
    have S0 := B0
    have S1 := B1
    have EB := hb
    have R1 := S1.valR
    clear B0 B1 hb
    go_wp2_with (first
      | (refine wpList_load_mid rfl 54 (.tmp 4) rfl (w.heap.size + 1) 0 rfl (vcells zval) _ R1 hu rfl info_val ?_)
      | fail)
    refine (HSH.out _ EB).mono ?_
    rintro e w5 ⟨rfl, hb5⟩
    replace S0 := S0.later hb5
    replace S1 := S1.later hb5
    replace EB := EB.trans (hb5.mono EB.size)
    have T0 := S0.there 0 3 (Nat.le_refl _)
    replace R1 := S1.valR
    have F0 := S0.whole (ds := vcells zval) rfl
    have FB := below_sets (B := w.heap.size) (b := w.heap.size) (Nat.le_refl _) (vcells zval) 0 EB
    clear hb5 S0 S1 EB
    go_wp2_with (first
      | (refine wpList_store_mid rfl 54 (.tmp 2) (.tmp 36) rfl w.heap.size 0 (vcells zval).toArray rfl rfl T0 info_val HOZ ?_
         simp only [Act.put]
         generalize hw6 : World.setCells w5 w.heap.size 0 (vcells zval).toArray.toList = w6
         have e6 : World.setCells w5 w.heap.size 0 (vcells zval) = w6 := hw6
         rw [e6] at F0 FB
         clear hw6 e6 T0 R1)
      | fail)
    exact bodyPost_ret (v := .tuple #[.agg (vcells zval).toArray, .bool false]) (results_blk_tmp (p := 3) (q := 2) rfl _ _ w.heap.size (vcells zval) _ _ rfl rfl F0 hu rfl info_val) rfl ⟨rfl, FB⟩
end Go.Proofs.YtdpghoobdkhilaaDoor

/- What any text is read as: both Reads. -/
namespace Go.Proofs.YtdpghoobdkhilaaDoor
set_option linter.unusedVariables false
open Go Go.RowKit BitM MskM ValM

open Classical in
/-- What a text is read as. -/
noncomputable def vrd (t : ByteArray) : V3 × Bool := if h : ∃ a : V3, vchk a = true ∧ vshow a = t.data.toList then (Classical.choose h, true) else (zval, false)
theorem str_self (t : ByteArray) {l : List UInt8} (h : l = t.data.toList) : t = str l := by
  subst h
  apply ByteArray.ext
  apply Array.ext'
  rfl
theorem vread_any (t : ByteArray) (w : World) (hx : t.size ≤ 1000) (ht : Tab w) : Calls Tryd.prog 22 #[.string t] w fun e w' => e = .returned (.tuple #[.agg (vcells (vrd t).1).toArray, .bool (vrd t).2]) ∧ Below w.heap.size w w' := by
  unfold vrd
  by_cases h : ∃ a : V3, vchk a = true ∧ vshow a = t.data.toList
  · rw [dif_pos h]
    obtain ⟨h1, h2⟩ := Classical.choose_spec h
    exact vread_back (Classical.choose h) t w h1 ht (str_self t h2)
  · rw [dif_neg h]
    exact vread_no t w hx ht fun a ha e => h ⟨a, ha, e⟩
theorem pint_head (c : UInt8) (l : List UInt8) (m : Int) (h : dig c = false) : (pint (c :: l) m).2 = false := by
  unfold pint
  rw [if_pos (Or.inr (Or.inr (Or.inr (Or.inl (by rw [List.all_cons, h, Bool.false_and])))))]
theorem rread_any (t : ByteArray) (w : World) (hx : t.size ≤ 1000) : Calls Tryd.prog 27 #[.string t] w fun e w' => e = .returned (.tuple #[.agg (vcells (vrd t).1).toArray, .bool (vrd t).2]) ∧ Below w.heap.size w w' := by
  have hsz : t.data.toList.length = t.size := by simp
  unfold vrd
  by_cases h : ∃ a : V3, vchk a = true ∧ vshow a = t.data.toList
  · rw [dif_pos h]
    obtain ⟨h1, h2⟩ := Classical.choose_spec h
    generalize Classical.choose h = a at *
    obtain ⟨k, n, s⟩ := a
    rcases vshow_of k n s h1 with ⟨e, rfl, rfl, rfl⟩ | ⟨e, rfl, h3, h4, rfl⟩ | ⟨e, rfl, rfl⟩
    · have e2 : t.data.toList = [45] := h2.symm.trans e
      refine rread_3y t w (by rw [e2]; exact pint_head 45 [] _ (by decide)) ?_ (str_self t h2)
      rintro ⟨h5, _⟩
      rw [← hsz, e2] at h5
      simp at h5
    · have e2 : t.data.toList = Lib.itoa n := h2.symm.trans e
      exact rread_1y t w n (by rw [e2]; exact pint_itoa n h3 h4) (str_self t h2)
    · have e2 : t.data.toList = quo s.data.toList := h2.symm.trans e
      have hl : s.data.toList.length = s.size := by simp
      have h5 := (vchk_txt 0 s h1).2
      have hq := quo_size e2
      have hq4 := qug_len s.data.toList
      obtain ⟨l0, e0, _⟩ := byte_of (t := t) (i := 0) (by rw [List.drop_zero, e2, quo_head])
      refine rread_2y t w s (by rw [e2, quo_head]; exact pint_head 34 _ _ (by decide)) (fun wx => ?_) (by omega) e0 (by omega) (str_self t h2)
      refine (ropen_any t wx hx).mono ?_
      rintro e w' ⟨⟨p, rfl, hp⟩, hb⟩
      rw [hp _ e2]
      exact ⟨rfl, hb⟩
  · rw [dif_neg h]
    have hn : NoVal t := fun a ha e => h ⟨a, ha, e⟩
    cases hok : (pint t.data.toList 1099511627776).2
    · by_cases hc : 1 < t.size ∧ (∃ h : 0 < t.size, t[0] = 34) ∧ t.size ≤ 98
      · obtain ⟨c1, ⟨c0, c2⟩, c3⟩ := hc
        have hne : t.data.toList ≠ [] := by intro e; rw [e] at hsz; simp at hsz; omega
        refine rread_2n t w hok (fun wx => ?_) c1 c2 c3 (fun p => not_show (2, 0, p) hn hne)
        refine (ropen_any t wx hx).mono ?_
        rintro e w' ⟨⟨p, rfl, _⟩, hb⟩
        exact ⟨⟨p, rfl⟩, hb⟩
      · refine rread_3n t w hok hc ?_
        rw [bne_iff_ne]
        intro e
        have e1 : ∀ l : List UInt8, (str l).toList = l := fun l => by rw [ByteArray.toList_eq]; rfl
        rw [e1, ByteArray.toList_eq] at e
        exact hn zval (by decide +kernel) e
    · have hne : t.data.toList ≠ [] := by intro e; rw [e] at hok; simp [pint] at hok
      exact rread_1n t w _ (by rw [← hok]) (not_show _ hn hne)
end Go.Proofs.YtdpghoobdkhilaaDoor

/- The words of a text: the mathematics. -/
namespace Go.Proofs.YtdpghoobdkhilaaDoor
set_option linter.unusedVariables false
open Go Go.RowKit BitM MskM ValM

namespace LexM
def letterB (c : UInt8) : Bool := decide (97 ≤ c.toNat) && decide (c.toNat ≤ 122)
def blankB (c : UInt8) : Bool := decide (c.toNat = 32)
def signB (c : UInt8) : Bool := decide (c.toNat = 40 ∨ c.toNat = 41 ∨ c.toNat = 61 ∨ c.toNat = 60 ∨ c.toNat = 62 ∨ c.toNat = 126)
/-- The place behind the bytes of a kind, from a place on. -/
def lrun (p : UInt8 → Bool) (l : List UInt8) (k : Nat) : Nat := k + ((l.drop k).takeWhile p).length
theorem lrun_ge (p : UInt8 → Bool) (l : List UInt8) (k : Nat) : k ≤ lrun p l k := Nat.le_add_right _ _
theorem lrun_le (p : UInt8 → Bool) (l : List UInt8) (k : Nat) (h : k ≤ l.length) : lrun p l k ≤ l.length := by
  unfold lrun
  have := (List.takeWhile_prefix (l := l.drop k) p).length_le
  rw [List.length_drop] at this
  omega
theorem lrun_yes (p : UInt8 → Bool) (l : List UInt8) (k : Nat) (h : k < l.length) (hp : p l[k] = true) : lrun p l k = lrun p l (k + 1) := by
  unfold lrun
  rw [List.drop_eq_getElem_cons h, List.takeWhile_cons_of_pos hp, List.length_cons]
  omega
theorem lrun_no (p : UInt8 → Bool) (l : List UInt8) (k : Nat) (h : k < l.length) (hp : p l[k] = false) : lrun p l k = k := by
  unfold lrun
  rw [List.drop_eq_getElem_cons h, List.takeWhile_cons_of_neg (by rw [hp]; simp)]
  rfl
theorem lrun_end (p : UInt8 → Bool) (l : List UInt8) (k : Nat) (h : l.length ≤ k) : lrun p l k = k := by
  unfold lrun
  rw [List.drop_eq_nil_of_le h]
  rfl

/-- The place behind a text in quotes, of what stands from place i on; 0: it does not end. -/
def qgo : List UInt8 → Nat → Nat
  | [], _ => 0
  | [c], i => if c = 34 then i + 1 else 0
  | c :: d :: l, i => if c = 34 then i + 1 else if c = 92 then qgo l (i + 2) else qgo (d :: l) (i + 1)
theorem qgo_34 (l : List UInt8) (i : Nat) : qgo (34 :: l) i = i + 1 := by
  cases l <;> simp [qgo]
theorem qgo_92 (l : List UInt8) (i : Nat) : qgo (92 :: l) i = qgo (l.drop 1) (i + 2) := by
  cases l <;> simp [qgo]
theorem qgo_else (c : UInt8) (l : List UInt8) (i : Nat) (h1 : c ≠ 34) (h2 : c ≠ 92) : qgo (c :: l) i = qgo l (i + 1) := by
  cases l <;> simp [qgo, h1, h2]
theorem qgo_bound : ∀ (n : Nat) (l : List UInt8) (i : Nat), l.length ≤ n → qgo l i ≠ 0 → i < qgo l i ∧ qgo l i ≤ i + l.length
  | _, [], _, _, h => absurd rfl h
  | 0, _ :: _, _, hn, _ => by simp at hn
  | n + 1, c :: l, i, hn, h => by
    simp only [List.length_cons] at hn ⊢
    by_cases h1 : c = 34
    · subst h1; rw [qgo_34]; omega
    · by_cases h2 : c = 92
      · subst h2
        rw [qgo_92] at h ⊢
        have := qgo_bound n (l.drop 1) (i + 2) (by rw [List.length_drop]; omega) h
        rw [List.length_drop] at this
        by_cases hl : l.length = 0
        · exfalso
          rw [List.length_eq_zero_iff.1 hl] at h
          exact h rfl
        · omega
      · rw [qgo_else c l i h1 h2] at h ⊢
        have := qgo_bound n l (i + 1) (by omega) h
        omega
/-- The place behind the text in quotes that begins at k. -/
def qend (l : List UInt8) (k : Nat) : Nat := qgo (l.drop (k + 1)) (k + 1)
theorem qend_bound (l : List UInt8) (k : Nat) (h : qend l k ≠ 0) : k + 1 < qend l k ∧ qend l k ≤ l.length := by
  have h1 := qgo_bound _ (l.drop (k + 1)) (k + 1) (Nat.le_refl _) h
  rw [List.length_drop] at h1
  by_cases hk : k + 1 ≤ l.length
  · unfold qend; omega
  · exfalso
    unfold qend at h
    rw [List.drop_eq_nil_of_le (by omega)] at h
    exact h rfl

/-- A word: its kind, its number, its place, its text. -/
abbrev Wd := Int × Int × Int × ByteArray
def wcells4 (x : Wd) : List Value := [.int .i64 x.1, .int .i64 x.2.1, .int .i64 x.2.2.1, .string x.2.2.2]
/-- The word at a place, and the place behind it. -/
noncomputable def wone (t : ByteArray) (k : Nat) : Option (Wd × Nat) :=
  match t.data.toList[k]? with
  | none => none
  | some c =>
    if letterB c then some ((1, 0, (k : Int), t.extract k (lrun letterB t.data.toList k)), lrun letterB t.data.toList k)
    else if dig c then
      let r := pint (t.extract k (lrun dig t.data.toList k)).data.toList 1099511627776
      if r.2 then some ((2, r.1, (k : Int), ⟨#[]⟩), lrun dig t.data.toList k) else none
    else if c.toNat = 34 then
      if qend t.data.toList k = 0 then none else
      let r := vrd (t.extract k (qend t.data.toList k))
      if r.2 then some ((3, 0, (k : Int), r.1.2.2), qend t.data.toList k) else none
    else if signB c then some ((4, 0, (k : Int), t.extract k (k + 1)), k + 1)
    else none
theorem wone_past {t : ByteArray} {k : Nat} {x : Wd × Nat} (h : wone t k = some x) : k < x.2 ∧ x.2 ≤ t.size := by
  have hsz : t.data.toList.length = t.size := by simp
  unfold wone at h
  split at h
  · cases h
  · rename_i c hc
    obtain ⟨hk, hc⟩ := List.getElem?_eq_some_iff.1 hc
    split at h
    · rename_i hl
      cases h
      rw [← hc] at hl
      have h1 := lrun_yes letterB t.data.toList k hk hl
      have h2 := lrun_ge letterB t.data.toList (k + 1)
      have h3 := lrun_le letterB t.data.toList k (by omega)
      dsimp only
      omega
    · split at h
      · rename_i hl
        rw [← hc] at hl
        have h1 := lrun_yes dig t.data.toList k hk hl
        have h2 := lrun_ge dig t.data.toList (k + 1)
        have h3 := lrun_le dig t.data.toList k (by omega)
        simp only at h
        split at h
        · cases h; dsimp only; omega
        · cases h
      · split at h
        · split at h
          · cases h
          · rename_i hq
            have := qend_bound _ _ hq
            simp only at h
            split at h
            · cases h; dsimp only; omega
            · cases h
        · split at h
          · cases h; dsimp only; omega
          · cases h
/-- The words from a place on, behind some; or the place of what is wrong. -/
noncomputable def lgo (t : ByteArray) : Nat → Nat → List Wd → Option (List Wd) × Nat
  | 0, _, acc => (some acc, 0)
  | f + 1, k, acc =>
    match t.data.toList[k]? with
    | none => (some acc, 0)
    | some c => if c.toNat = 32 then lgo t f (k + 1) acc else
      match wone t k with
      | none => (none, k)
      | some x => lgo t f x.2 (acc ++ [x.1])
theorem lgo_fuel (t : ByteArray) : ∀ (f g k : Nat) (acc : List Wd), t.size - k ≤ f → t.size - k ≤ g → lgo t f k acc = lgo t g k acc := by
  have hsz : t.data.toList.length = t.size := by simp
  have key : ∀ (f k : Nat) (acc : List Wd), t.size ≤ k → lgo t f k acc = (some acc, 0) := by
    intro f k acc h
    cases f with
    | zero => rfl
    | succ f =>
      unfold lgo
      rw [List.getElem?_eq_none (by omega)]
  intro f
  induction f with
  | zero =>
    intro g k acc h1 h2
    rw [key 0 k acc (by omega), key g k acc (by omega)]
  | succ f ih =>
    intro g k acc h1 h2
    by_cases hk : t.size ≤ k
    · rw [key _ k acc hk, key g k acc hk]
    · cases g with
      | zero => omega
      | succ g =>
        unfold lgo
        rw [List.getElem?_eq_getElem (by omega)]
        simp only
        split
        · exact ih g (k + 1) acc (by omega) (by omega)
        · cases hw : wone t k with
          | none => rfl
          | some x =>
            have := wone_past hw
            exact ih g x.2 _ (by omega) (by omega)
/-- The words of a text from a place on. -/
noncomputable def lto (t : ByteArray) (k : Nat) (acc : List Wd) : Option (List Wd) × Nat := lgo t (t.size - k) k acc
theorem lto_end (t : ByteArray) (k : Nat) (acc : List Wd) (h : t.size ≤ k) : lto t k acc = (some acc, 0) := by
  unfold lto
  rw [show t.size - k = 0 by omega]
  rfl
theorem lto_step (t : ByteArray) (k : Nat) (acc : List Wd) (h : k < t.size) :
    lto t k acc = if (t[k]).toNat = 32 then lto t (k + 1) acc else match wone t k with
      | none => (none, k)
      | some x => lto t x.2 (acc ++ [x.1]) := by
  have hsz : t.data.toList.length = t.size := by simp
  unfold lto
  rw [show t.size - k = (t.size - (k + 1)) + 1 by omega]
  conv => lhs; unfold lgo
  rw [List.getElem?_eq_getElem (by omega)]
  simp only
  have e : t.data.toList[k] = t[k] := rfl
  rw [e]
  split
  · rfl
  · cases hw : wone t k with
    | none => rfl
    | some x =>
      have := wone_past hw
      exact lgo_fuel t _ _ _ _ (by omega) (by omega)
theorem lto_blank (t : ByteArray) (k : Nat) (acc : List Wd) (h : k < t.size) (hb : (t[k]).toNat = 32) : lto t k acc = lto t (k + 1) acc := by
  rw [lto_step t k acc h, if_pos hb]
theorem lto_word (t : ByteArray) (k : Nat) (acc : List Wd) (h : k < t.size) (hb : (t[k]).toNat ≠ 32) (x : Wd × Nat) (hx : wone t k = some x) : lto t k acc = lto t x.2 (acc ++ [x.1]) := by
  rw [lto_step t k acc h, if_neg hb, hx]
theorem lto_bad (t : ByteArray) (k : Nat) (acc : List Wd) (h : k < t.size) (hb : (t[k]).toNat ≠ 32) (hx : wone t k = none) : lto t k acc = (none, k) := by
  rw [lto_step t k acc h, if_neg hb, hx]
/-- Blanks, as many as there are, change nothing. -/
theorem lto_blanks (t : ByteArray) : ∀ (n k : Nat) (acc : List Wd), t.size - k = n → k ≤ t.size → lto t k acc = lto t (lrun blankB t.data.toList k) acc
  | 0, k, acc, hn, hk => by
    have hsz : t.data.toList.length = t.size := by simp
    rw [lrun_end blankB _ k (by omega)]
  | n + 1, k, acc, hn, hk => by
    have hsz : t.data.toList.length = t.size := by simp
    have hlt : k < t.data.toList.length := by omega
    by_cases hb : (t[k]'(by omega)).toNat = 32
    · rw [lto_blank t k acc (by omega) hb, lto_blanks t n (k + 1) acc (by omega) (by omega), ← lrun_yes blankB _ k hlt (decide_eq_true hb)]
    · rw [lrun_no blankB _ k hlt (decide_eq_false hb)]
end LexM
end Go.Proofs.YtdpghoobdkhilaaDoor
