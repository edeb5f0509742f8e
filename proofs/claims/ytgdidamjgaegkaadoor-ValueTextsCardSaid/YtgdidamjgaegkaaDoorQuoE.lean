/- A value that may be is read of its text; unlike ones have unlike texts. -/
import Derived.Test.YtgdidamjgaegkaaDoorQuoD
namespace Go.Proofs.YtgdidamjgaegkaaDoor
set_option linter.unusedVariables false
open Go Go.RowKit BitM MskM ValM

set_option maxRecDepth 100000 in
set_option maxHeartbeats 3200000 in
theorem vread_nil (w : World) : Calls Tryd.prog 45 #[.string ⟨#[45]⟩] w fun e w' => e = .returned (.tuple #[.agg (vcells zval).toArray, .bool true]) ∧ Below w.heap.size w w' := by
  have hu := Tryd.underlying43
  obtain ⟨W, hW, B0, B1, hb⟩ := two_news w
  subst hW
  have HO : (vcells zval).toArray.all (·.oneCell') = true := all_oneCell_toArray (by intro v hv; simp only [vcells, List.mem_cons, List.not_mem_nil, or_false] at hv; rcases hv with rfl | rfl | rfl <;> rfl)
  have T0 := B0.there 0 3 (Nat.le_refl _)
  have R1 := B1.valR
  have F0 := B0.whole (ds := vcells zval) rfl
  have FB := below_sets (B := w.heap.size) (b := w.heap.size) (Nat.le_refl _) (vcells zval) 0 hb
  go_enter Tryd.func45, Tryd.ntmps45
  go_wp2_with (first
    | (refine wpList_load_mid rfl 43 (.tmp 4) rfl (w.heap.size + 1) 0 rfl (vcells zval) _ R1 hu rfl info_val ?_)
    | (refine wpList_store_mid rfl 43 (.tmp 2) (.tmp 29) rfl w.heap.size 0 (vcells zval).toArray rfl rfl T0 info_val HO ?_
       simp only [Act.put]
       generalize hw6 : World.setCells _ w.heap.size 0 (vcells zval).toArray.toList = w6
       have F1 : Blk w6 w.heap.size (vcells zval) := hw6 ▸ F0
       have FB1 : Below w.heap.size w w6 := hw6 ▸ FB
       clear hw6 T0 R1 F0 FB)
    | fail)
  exact bodyPost_ret (v := .tuple #[.agg (vcells zval).toArray, .bool true]) (results_blk_tmp (p := 3) (q := 2) rfl _ _ w.heap.size (vcells zval) _ _ rfl rfl F1 hu rfl info_val) rfl ⟨rfl, FB1⟩

theorem vread_back (a : V3) (t : ByteArray) (w : World) (hc : vchk a = true) (ht : Tab w) (he : t = str (vshow a)) : Calls Tryd.prog 45 #[.string t] w fun e w' => e = .returned (.tuple #[.agg (vcells a).toArray, .bool true]) ∧ Below w.heap.size w w' := by
  obtain ⟨k, n, s⟩ := a
  have hv : vshow (k, n, s) = if k = 1 then Lib.itoa n else if k = 2 then quo s.data.toList else [45] := by unfold vshow; rw [if_neg (by rw [hc]; simp)]
  rw [hv] at he
  rcases vchk_kind k n s hc with rfl | rfl | rfl
  · obtain ⟨rfl, rfl⟩ := vchk_nil n s hc
    subst he
    exact vread_nil w
  · obtain ⟨h0, h1, rfl⟩ := vchk_num n s hc
    exact vread_num n t w h0 h1 ht he
  · obtain ⟨rfl, h1⟩ := vchk_txt n s hc
    exact vread_text s t w h1 ht he

theorem itoa_digs (n : Int) (h0 : 0 ≤ n) : (Lib.itoa n).all dig = true ∧ Lib.itoa n ≠ [] := by
  obtain ⟨k, rfl⟩ := Int.eq_ofNat_of_zero_le h0
  have hi : Lib.itoa (k : Int) = Lib.decDigits k := by unfold Lib.itoa; rw [if_neg (by omega), Int.toNat_natCast]
  rw [hi]
  exact ⟨(dec_facts k k (Nat.le_refl _)).2.1, (dec_facts k k (Nat.le_refl _)).2.2.1⟩
theorem itoa_not {n : Int} (h0 : 0 ≤ n) {c : UInt8} {l : List UInt8} (hc : dig c = false) : Lib.itoa n ≠ c :: l := by
  intro e
  have h := (itoa_digs n h0).1
  rw [e, List.all_cons, hc] at h
  cases h
theorem vshow_of (k n : Int) (s : ByteArray) (h : vchk (k, n, s) = true) : (vshow (k, n, s) = [45] ∧ k = 0 ∧ n = 0 ∧ s = empty) ∨ (vshow (k, n, s) = Lib.itoa n ∧ k = 1 ∧ 0 ≤ n ∧ n ≤ 1099511627776 ∧ s = empty) ∨ (vshow (k, n, s) = quo s.data.toList ∧ k = 2 ∧ n = 0) := by
  have hv : vshow (k, n, s) = if k = 1 then Lib.itoa n else if k = 2 then quo s.data.toList else [45] := by unfold vshow; rw [if_neg (by rw [h]; simp)]
  rcases vchk_kind k n s h with rfl | rfl | rfl
  · obtain ⟨rfl, rfl⟩ := vchk_nil n s h
    exact .inl ⟨hv, rfl, rfl, rfl⟩
  · obtain ⟨h0, h1, rfl⟩ := vchk_num n s h
    exact .inr (.inl ⟨hv, rfl, h0, h1, rfl⟩)
  · obtain ⟨rfl, h1⟩ := vchk_txt n s h
    exact .inr (.inr ⟨hv, rfl, rfl⟩)
theorem quo_head (l : List UInt8) : quo l = 34 :: (qug l ++ [34]) := rfl
theorem vshow_inj (a b : V3) (ha : vchk a = true) (hb : vchk b = true) (h : vshow a = vshow b) : a = b := by
  obtain ⟨k, n, s⟩ := a
  obtain ⟨k', n', s'⟩ := b
  rcases vshow_of k n s ha with ⟨e, rfl, rfl, rfl⟩ | ⟨e, rfl, h0, h1, rfl⟩ | ⟨e, rfl, rfl⟩ <;> rcases vshow_of k' n' s' hb with ⟨e', rfl, rfl, rfl⟩ | ⟨e', rfl, h0', h1', rfl⟩ | ⟨e', rfl, rfl⟩ <;> replace h := (e.symm.trans h).trans e'
  · rfl
  · exact absurd h.symm (itoa_not h0' (by decide))
  · rw [quo_head] at h; simp at h
  · exact absurd h (itoa_not h0 (by decide))
  · have p1 := pint_itoa n h0 h1
    rw [h, pint_itoa n' h0' h1'] at p1
    injection p1 with p1 _
    rw [p1]
  · rw [quo_head] at h
    exact absurd h (itoa_not h0 (by decide))
  · rw [quo_head] at h; simp at h
  · rw [quo_head] at h
    exact absurd h.symm (itoa_not h0' (by decide))
  · have := quo_inj h
    have e2 : s = s' := by
      apply ByteArray.ext
      apply Array.ext'
      exact this
    rw [e2]
theorem vshow_eq (a b : V3) (ha : vchk a = true) (hb : vchk b = true) : ((str (vshow a)).toList == (str (vshow b)).toList) = decide (a = b) := by
  have e1 : ∀ l : List UInt8, (str l).toList = l := fun l => by rw [ByteArray.toList_eq]; rfl
  rw [e1, e1, Bool.eq_iff_iff, beq_iff_eq, decide_eq_true_eq]
  exact ⟨vshow_inj a b ha hb, fun h => by rw [h]⟩
end Go.Proofs.YtgdidamjgaegkaaDoor
