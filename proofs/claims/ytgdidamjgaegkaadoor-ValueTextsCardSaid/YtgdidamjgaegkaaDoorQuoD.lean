/- What Read returns of a value's text. -/
import Derived.Test.YtgdidamjgaegkaaDoorQuoC
import Derived.Test.YtgdidamjgaegkaaDoorLoadG
namespace Go.Proofs.YtgdidamjgaegkaaDoor
set_option linter.unusedVariables false
open Go Go.RowKit BitM MskM ValM

theorem Blk.whole {w : World} {g : Nat} {cs ds : List Value} (h : Blk w g cs) (hl : ds.length = cs.length) : Blk (w.setCells g 0 ds) g ds := by
  have h2 := h.sets ds 0 (by omega)
  rw [List.take_zero, List.nil_append, List.drop_eq_nil_of_le (by omega), List.append_nil] at h2
  exact h2
theorem results_blk_tmp {P : Program} {fn : Func} {p q : Tmp} {ty : TypeId} (h : fn.results = #[.cell q ty, .tmp p]) (tmps : Array Value) (w : World) (g : Nat) (cs : List Value) (d : TypeDesc) (v : Value) (hp : tmps.getD p undef = v)
    (hq : tmps.getD q undef = .pointer (some ⟨g, 0, none⟩)) (hB : Blk w g cs)
    (hu : P.underlying ty = some d) (hd : (match d with | .struct _ | .array _ _ => true | _ => false) = true) (hi : (P.info? ty).map (·.size) = some cs.length) :
    (results fn tmps).run P w = .ok (.tuple #[.agg cs.toArray, v]) w := by
  obtain ⟨t, hB⟩ := hB
  subst hp
  have hq' : tmps[q]?.getD undef = .pointer (some ⟨g, 0, none⟩) := by simpa using hq
  simp [results, h, hq', asAddr, run_loadVar_row w g t ty cs.toArray (0, 0) d hB hu hd (by simpa using hi)]

def zval : V3 := (0, 0, ⟨#[]⟩)
/-- The world behind two new values. -/
theorem two_news (w : World) : ∃ W, W = (w.alloc (.cells (vcells zval).toArray 43)).alloc (.cells (vcells zval).toArray 43) ∧ Blk W w.heap.size (vcells zval) ∧ Blk W (w.heap.size + 1) (vcells zval) ∧ Below w.heap.size w W := by
  refine ⟨_, rfl, (Blk.new w (vcells zval) 43).alloc _, ?_, ((Below.refl w.heap.size w).alloc (Nat.le_refl _) _).alloc (by simp) _⟩
  have := Blk.new (w.alloc (.cells (vcells zval).toArray 43)) (vcells zval) 43
  have hs1 : (w.alloc (.cells (vcells zval).toArray 43)).heap.size = w.heap.size + 1 := by simp
  rw [hs1] at this
  exact this

set_option maxRecDepth 100000 in
set_option maxHeartbeats 3200000 in
theorem vread_text (s t : ByteArray) (w : World) (hs : s.size ≤ 24) (ht : Tab w) (he : t = str (quo s.data.toList)) : Calls Tryd.prog 45 #[.string t] w fun e w' => e = .returned (.tuple #[.agg (vcells (2, 0, s)).toArray, .bool true]) ∧ Below w.heap.size w w' := by
  have hl : s.data.toList.length = s.size := by simp
  have htd : t.data.toList = quo s.data.toList := by rw [he]; rfl
  have HSH := Lib.hid (fun (wx : World) (hb : Below w.heap.size w wx) => (show Calls Tryd.prog 49 #[.agg (vcells (2, 0, s)).toArray] wx fun e w' => e = .returned (.string t) ∧ Below wx.heap.size wx w' from by
    have h1 := vshow_any (2, 0, s) wx (ht.later hb)
    have h2 : vshow (2, 0, s) = quo s.data.toList := by unfold vshow; rw [if_neg (by rw [vchk_2]; simp [hs])]; rfl
    rw [h2, ← he] at h1
    exact h1))
  have HUQ := Lib.hid (fun (wx : World) => unquote_any t s.data.toList wx htd (by omega))
  have hstr : str s.data.toList = s := rfl
  rw [hstr] at HUQ
  have hq4 := qug_len s.data.toList
  have hsz : t.data.toList.length = t.size := by simp
  have h98 : t.size ≤ 98 := by rw [← hsz, htd]; unfold quo; simp; omega
  have h2 : 2 ≤ t.size := by rw [← hsz, htd]; unfold quo; simp
  have hh : t.data.toList = 34 :: (qug s.data.toList ++ [34]) := by rw [htd]; rfl
  obtain ⟨l0, e0, _⟩ := byte_of (i := 0) (by rw [List.drop_zero]; exact hh)
  have n0 : ((t[0].toNat : Int) == 34) = true := by rw [e0]; rfl
  have n1 : t.toList.isEmpty = false := by rw [ByteArray.toList_eq, hh]; rfl
  have n1b : ¬ t.toList = [] := by rw [ByteArray.toList_eq, hh]; simp
  have n2 : (t.toList == [45]) = false := by rw [ByteArray.toList_eq, hh]; rfl
  have n2b : ¬ t.toList = [45] := by rw [ByteArray.toList_eq, hh]; simp
  have hu := Tryd.underlying43
  obtain ⟨W, hW, B0, B1, hb⟩ := two_news w
  subst hW
  clear he htd hstr hq4 hsz hh e0 hl ht
  go_enter Tryd.func45, Tryd.ntmps45
  go_wp2_with fail
  refine (HUQ.out _).mono ?_
  rintro e w1 ⟨rfl, hb1⟩
  replace B0 := B0.later hb1
  replace B1 := B1.later hb1
  replace hb := hb.trans (hb1.mono hb.size)
  clear hb1
  obtain ⟨ds, hds⟩ : ∃ ds, ds = vcells (2, 0, s) := ⟨_, rfl⟩
  have HDS := Lib.hid hds
  have T1 := B1.there 0 3 (Nat.le_refl _)
  have HO : (vcells (2, 0, s)).toArray.all (·.oneCell') = true := all_oneCell_toArray (by intro v hv; simp only [vcells, List.mem_cons, List.not_mem_nil, or_false] at hv; rcases hv with rfl | rfl | rfl <;> rfl)
  have S1 := B1.whole (ds := vcells (2, 0, s)) rfl
  have S0 := Blk.setsOther (b := w.heap.size + 1) (by omega) (vcells (2, 0, s)) 0 B0
  have EB := below_sets (B := w.heap.size) (b := w.heap.size + 1) (by omega) (vcells (2, 0, s)) 0 hb
  clear B0 B1 hb hds
  go_wp2_with (first
    | (refine wpList_store_mid rfl 43 (.tmp 4) (.tmp 36) rfl (w.heap.size + 1) 0 (vcells (2, 0, s)).toArray rfl rfl T1 info_val HO ?_
       simp only [Act.put]
       generalize hw4 : World.setCells w1 (w.heap.size + 1) 0 (vcells (2, 0, s)).toArray.toList = w4
       have e4 : World.setCells w1 (w.heap.size + 1) 0 (vcells (2, 0, s)) = w4 := hw4
       rw [e4] at S0 S1 EB
       clear hw4 e4 T1
       have R1 := S1.valR)
    | (refine wpList_load_mid rfl 43 (.tmp 4) rfl (w.heap.size + 1) 0 rfl (vcells (2, 0, s)) _ R1 hu rfl info_val ?_)
    | fail)
  refine (HSH.out _ EB).mono ?_
  rintro e w5 ⟨rfl, hb5⟩
  replace S0 := S0.later hb5
  replace S1 := S1.later hb5
  replace EB := EB.trans (hb5.mono EB.size)
  have T0 := S0.there 0 3 (Nat.le_refl _)
  replace R1 := S1.valR
  have F0 := S0.whole (ds := vcells (2, 0, s)) rfl
  have FB := below_sets (B := w.heap.size) (b := w.heap.size) (Nat.le_refl _) (vcells (2, 0, s)) 0 EB
  clear hb5 S0 S1 EB
  go_wp2_with (first
    | (refine wpList_load_mid rfl 43 (.tmp 4) rfl (w.heap.size + 1) 0 rfl (vcells (2, 0, s)) _ R1 hu rfl info_val ?_)
    | (refine wpList_store_mid rfl 43 (.tmp 2) (.tmp 42) rfl w.heap.size 0 (vcells (2, 0, s)).toArray rfl rfl T0 info_val HO ?_
       simp only [Act.put]
       generalize hw6 : World.setCells w5 w.heap.size 0 (vcells (2, 0, s)).toArray.toList = w6
       have e6 : World.setCells w5 w.heap.size 0 (vcells (2, 0, s)) = w6 := hw6
       rw [e6] at F0 FB
       clear hw6 e6 T0 R1)
    | fail)
  exact bodyPost_ret (v := .tuple #[.agg (vcells (2, 0, s)).toArray, .bool true]) (results_blk_tmp (p := 3) (q := 2) rfl _ _ w.heap.size (vcells (2, 0, s)) _ _ rfl rfl F0 hu rfl info_val) rfl ⟨rfl, FB⟩

set_option maxRecDepth 100000 in
set_option maxHeartbeats 3200000 in
theorem vread_num (n : Int) (t : ByteArray) (w : World) (h0 : 0 ≤ n) (h1 : n ≤ 1099511627776) (ht : Tab w) (he : t = str (Lib.itoa n)) : Calls Tryd.prog 45 #[.string t] w fun e w' => e = .returned (.tuple #[.agg (vcells (1, n, empty)).toArray, .bool true]) ∧ Below w.heap.size w w' := by
  have htd : t.data.toList = Lib.itoa n := by rw [he]; rfl
  have HSH := Lib.hid (fun (wx : World) (hb : Below w.heap.size w wx) => (show Calls Tryd.prog 49 #[.agg (vcells (1, n, empty)).toArray] wx fun e w' => e = .returned (.string t) ∧ Below wx.heap.size wx w' from by
    have h2 := vshow_any (1, n, empty) wx (ht.later hb)
    have h3 : vshow (1, n, empty) = Lib.itoa n := by unfold vshow; rw [if_neg (by unfold vchk; simp [h0, h1])]; rfl
    rw [h3, ← he] at h2
    exact h2))
  have HIN := Lib.hid (fun wx : World => (show Calls Tryd.prog 26 #[.string t, .int .i64 1099511627776] wx fun e w' => e = .returned (.tuple #[.int .i64 n, .bool true]) ∧ Below wx.heap.size wx w' from by
    have h2 := int_any t 1099511627776 wx
    rw [htd, pint_itoa n h0 h1] at h2
    exact h2.mono fun e w' h => ⟨h.1, h.2 ▸ Below.refl _ _⟩))
  obtain ⟨k, hk⟩ := Int.eq_ofNat_of_zero_le h0
  have hi : Lib.itoa n = Lib.decDigits k := by unfold Lib.itoa; rw [if_neg (by omega), hk, Int.toNat_natCast]
  obtain ⟨_, f2, f3, _⟩ := dec_facts k k (Nat.le_refl _)
  have hlen := dec_len 12 k (by omega)
  have hsz : t.data.toList.length = t.size := by simp
  have h98 : t.size ≤ 98 := by rw [← hsz, htd, hi]; omega
  rw [hi] at htd
  obtain ⟨c, l, hcl⟩ : ∃ c l, Lib.decDigits k = c :: l := by
    cases hd : Lib.decDigits k with
    | nil => exact absurd hd f3
    | cons c l => exact ⟨c, l, rfl⟩
  rw [hcl] at htd f2
  rw [List.all_cons, Bool.and_eq_true] at f2
  have hdig := f2.1
  unfold dig at hdig
  simp only [Bool.and_eq_true, decide_eq_true_eq] at hdig
  have h2 : 1 ≤ t.size := by rw [← hsz, htd]; simp
  obtain ⟨l0, e0, _⟩ := byte_of (i := 0) (by rw [List.drop_zero]; exact htd)
  have n0 : ((t[0].toNat : Int) == 34) = false := by rw [e0, beq_eq_false_iff_ne]; omega
  have c45 : c ≠ 45 := by rintro rfl; exact absurd hdig.1 (by decide)
  have n1 : t.toList.isEmpty = false := by rw [ByteArray.toList_eq, htd]; rfl
  have n1b : ¬ t.toList = [] := by rw [ByteArray.toList_eq, htd]; simp
  have n2b : ¬ t.toList = [45] := by rw [ByteArray.toList_eq, htd]; simp [c45]
  have n2 : (t.toList == [45]) = false := by rw [beq_eq_false_iff_ne]; exact n2b
  have hu := Tryd.underlying43
  obtain ⟨W, hW, B0, B1, hb⟩ := two_news w
  subst hW
  clear he htd hsz e0 ht hk hi f2 f3 hlen hcl hdig c45 h0 h1
  go_enter Tryd.func45, Tryd.ntmps45
  go_wp2_with fail
  refine (HIN.out _).mono ?_
  rintro e w1 ⟨rfl, hb1⟩
  replace B0 := B0.later hb1
  replace B1 := B1.later hb1
  replace hb := hb.trans (hb1.mono hb.size)
  clear hb1
  obtain ⟨ds, hds⟩ : ∃ ds, ds = vcells (1, n, empty) := ⟨_, rfl⟩
  have HDS := Lib.hid hds
  have T1 := B1.there 0 3 (Nat.le_refl _)
  have HO : (vcells (1, n, empty)).toArray.all (·.oneCell') = true := all_oneCell_toArray (by intro v hv; simp only [vcells, List.mem_cons, List.not_mem_nil, or_false] at hv; rcases hv with rfl | rfl | rfl <;> rfl)
  have S1 := B1.whole (ds := vcells (1, n, empty)) rfl
  have S0 := Blk.setsOther (b := w.heap.size + 1) (by omega) (vcells (1, n, empty)) 0 B0
  have EB := below_sets (B := w.heap.size) (b := w.heap.size + 1) (by omega) (vcells (1, n, empty)) 0 hb
  clear B0 B1 hb hds
  go_wp2_with (first
    | (refine wpList_store_mid rfl 43 (.tmp 4) (.tmp 16) rfl (w.heap.size + 1) 0 (vcells (1, n, empty)).toArray rfl rfl T1 info_val HO ?_
       simp only [Act.put]
       generalize hw4 : World.setCells w1 (w.heap.size + 1) 0 (vcells (1, n, empty)).toArray.toList = w4
       have e4 : World.setCells w1 (w.heap.size + 1) 0 (vcells (1, n, empty)) = w4 := hw4
       rw [e4] at S0 S1 EB
       clear hw4 e4 T1
       have R1 := S1.valR)
    | (refine wpList_load_mid rfl 43 (.tmp 4) rfl (w.heap.size + 1) 0 rfl (vcells (1, n, empty)) _ R1 hu rfl info_val ?_)
    | fail)
  refine (HSH.out _ EB).mono ?_
  rintro e w5 ⟨rfl, hb5⟩
  replace S0 := S0.later hb5
  replace S1 := S1.later hb5
  replace EB := EB.trans (hb5.mono EB.size)
  have T0 := S0.there 0 3 (Nat.le_refl _)
  replace R1 := S1.valR
  have F0 := S0.whole (ds := vcells (1, n, empty)) rfl
  have FB := below_sets (B := w.heap.size) (b := w.heap.size) (Nat.le_refl _) (vcells (1, n, empty)) 0 EB
  clear hb5 S0 S1 EB
  go_wp2_with (first
    | (refine wpList_load_mid rfl 43 (.tmp 4) rfl (w.heap.size + 1) 0 rfl (vcells (1, n, empty)) _ R1 hu rfl info_val ?_)
    | (refine wpList_store_mid rfl 43 (.tmp 2) (.tmp 42) rfl w.heap.size 0 (vcells (1, n, empty)).toArray rfl rfl T0 info_val HO ?_
       simp only [Act.put]
       generalize hw6 : World.setCells w5 w.heap.size 0 (vcells (1, n, empty)).toArray.toList = w6
       have e6 : World.setCells w5 w.heap.size 0 (vcells (1, n, empty)) = w6 := hw6
       rw [e6] at F0 FB
       clear hw6 e6 T0 R1)
    | fail)
  exact bodyPost_ret (v := .tuple #[.agg (vcells (1, n, empty)).toArray, .bool true]) (results_blk_tmp (p := 3) (q := 2) rfl _ _ w.heap.size (vcells (1, n, empty)) _ _ rfl rfl F0 hu rfl info_val) rfl ⟨rfl, FB⟩
end Go.Proofs.YtgdidamjgaegkaaDoor
