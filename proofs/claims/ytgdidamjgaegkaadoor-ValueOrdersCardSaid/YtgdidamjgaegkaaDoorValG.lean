/- The document's Compare, Less and Holds: what each returns. -/
import Derived.Test.YtgdidamjgaegkaaDoorValF
import Derived.Test.YtgdidamjgaegkaaDoorLoadG
namespace Go.Proofs.YtgdidamjgaegkaaDoor
set_option linter.unusedVariables false
open Go Go.RowKit BitM ValM

theorem cmpS_prefix : ∀ (p x y : List UInt8), cmpS (p ++ x) (p ++ y) = cmpS x y
  | [], x, y => rfl
  | c :: p, x, y => by
    rw [← cmpS_prefix p x y]
    unfold cmpS
    simp [Op.bytesLess, UInt8.lt_irrefl]
theorem cmpS_heads (c d : UInt8) (x y : List UInt8) (h : c ≠ d) : cmpS (c :: x) (d :: y) = cmpI (c.toNat : Int) (d.toNat : Int) := by
  have hn : c.toNat ≠ d.toNat := fun e => h (UInt8.toNat_inj.1 e)
  unfold cmpS cmpI
  have hdc : (d == c) = false := by rw [beq_eq_false_iff_ne]; exact fun e => h e.symm
  have hcd : (c == d) = false := by rw [beq_eq_false_iff_ne]; exact h
  simp only [Op.bytesLess, hcd, hdc, Bool.false_and, Bool.or_false, decide_eq_true_eq, UInt8.lt_iff_toNat_lt, Int.ofNat_lt]
theorem cmpS_diff {l m : List UInt8} {k : Nat} (h1 : k < l.length) (h2 : k < m.length) (h : l.take k = m.take k) (hne : l[k] ≠ m[k]) : cmpS l m = cmpI (l[k].toNat : Int) (m[k].toNat : Int) := by
  rw [← cmpS_heads l[k] m[k] (l.drop (k + 1)) (m.drop (k + 1)) hne, ← List.drop_eq_getElem_cons h1, ← List.drop_eq_getElem_cons h2]
  conv => lhs; rw [← List.take_append_drop k l, ← List.take_append_drop k m, h]
  exact cmpS_prefix _ _ _
theorem cmpS_end {l m : List UInt8} {k : Nat} (hk1 : k ≤ l.length) (hk2 : k ≤ m.length) (h : l.take k = m.take k) (he : k = l.length ∨ k = m.length) : cmpS l m = cmpI (l.length : Int) (m.length : Int) := by
  conv => lhs; rw [← List.take_append_drop k l, ← List.take_append_drop k m, h]
  rw [cmpS_prefix]
  rcases he with rfl | rfl
  · rw [List.drop_length]
    rcases Nat.lt_or_ge l.length m.length with hl | hl
    · rw [List.drop_eq_getElem_cons hl]
      have : cmpI (l.length : Int) (m.length : Int) = -1 := by unfold cmpI; rw [if_pos (by omega)]
      rw [this]; rfl
    · have : m.length = l.length := by omega
      rw [List.drop_eq_nil_of_le hl, this]
      rw [(cmpI_zero _ _).2 rfl]; rfl
  · rw [List.drop_length]
    rcases Nat.lt_or_ge m.length l.length with hl | hl
    · rw [List.drop_eq_getElem_cons hl]
      have : cmpI (l.length : Int) (m.length : Int) = 1 := by unfold cmpI; rw [if_neg (by omega), if_pos (by omega)]
      rw [this]; rfl
    · have : l.length = m.length := by omega
      rw [List.drop_eq_nil_of_le hl, this]
      rw [(cmpI_zero _ _).2 rfl]; rfl

set_option maxRecDepth 100000 in
set_option maxHeartbeats 3200000 in
theorem rcompare_any (a b : V3) (w : World) (hsa : a.2.2.size ≤ 1000) (hsb : b.2.2.size ≤ 1000) : Calls Tryd.prog 38 #[.agg (vcells a).toArray, .agg (vcells b).toArray] w fun e w' => e = .returned (.int .i64 (vcmp a b)) ∧ Below w.heap.size w w' := by
  obtain ⟨k0, n, s⟩ := a
  obtain ⟨k0', n', s'⟩ := b
  obtain ⟨W, hW, B0, B1, hb⟩ := two_boxes (k0, n, s) (k0', n', s') w
  obtain ⟨p0, p1, p2⟩ := B0.val
  obtain ⟨q0, q1, q2⟩ := B1.val
  obtain ⟨ca, hca⟩ : ∃ ca, ca = (vcells (k0, n, s)).toArray := ⟨_, rfl⟩
  obtain ⟨cb, hcb⟩ : ∃ cb, cb = (vcells (k0', n', s')).toArray := ⟨_, rfl⟩
  rw [← hca, ← hcb] at hW
  rw [← hca, ← hcb]
  have HW := Lib.hid hW
  clear hca hcb hW
  have HP2 : Hid (∀ wx, Le W wx → wx.cell? ⟨w.heap.size, 2, none⟩ = some (.string s)) := Lib.hid (fun wx hl => (B0.later hl).val.2.2)
  have HQ2 : Hid (∀ wx, Le W wx → wx.cell? ⟨w.heap.size + 1, 2, none⟩ = some (.string s')) := Lib.hid (fun wx hl => (B1.later hl).val.2.2)
  clear B0 B1
  rw [HW.out] at p0 p1 p2 q0 q1 q2 hb HP2 HQ2
  clear HW
  obtain ⟨r, hr⟩ : ∃ r, r = vcmp (k0, n, s) (k0', n', s') := ⟨_, rfl⟩
  rw [← hr]
  unfold vcmp at hr
  simp only at hr hsa hsb
  have HR := Lib.hid hr
  clear hr
  by_cases hk : k0 = k0'
  · have hk1 : (k0 != k0') = false := by rw [hk]; simp
    have HR1 : Hid (r = if cmpI n n' ≠ 0 then cmpI n n' else cmpS s.data.toList s'.data.toList) := Lib.hid (by rw [HR.out, if_neg (by rw [(cmpI_zero _ _).2 hk]; simp)])
    clear HR hk
    by_cases hn : n = n'
    · have hn1 : (n != n') = false := by rw [hn]; simp
      have HR2 : Hid (r = cmpS s.data.toList s'.data.toList) := Lib.hid (by rw [HR1.out, if_neg (by rw [(cmpI_zero _ _).2 hn]; simp)])
      clear HR1 hn
      go_enter Tryd.func38, Tryd.ntmps38
      go_wp2_with fail
      generalize ((w.alloc (.cells ca 43)).alloc (.cells cb 43)) = W0 at *
      clear p0 p1 q0 q1
      go_loopw [5] (fun i wr => ∃ k : Nat, k ≤ s.size ∧ k ≤ s'.size ∧ i = .int .i64 k ∧ Hid (s.data.toList.take k = s'.data.toList.take k) ∧ Le W0 wr) (fun i _ => s.size - (intOf i).toNat)
      case atStart => exact ⟨0, Nat.zero_le _, Nat.zero_le _, rfl, Lib.hid rfl, Le.refl _⟩
      case round =>
        obtain ⟨k, hka, hkb, rfl, HT, hle⟩ := hrel
        have u2 := HP2.out wr hle
        have v2 := HQ2.out wr hle
        have U2 : ∀ kk : LW wr, kk.val.cell? ⟨w.heap.size, 2, none⟩ = some (.string s) := fun kk => HP2.out _ (Le.trans hle kk.le)
        have V2 : ∀ kk : LW wr, kk.val.cell? ⟨w.heap.size + 1, 2, none⟩ = some (.string s') := fun kk => HQ2.out _ (Le.trans hle kk.le)
        have HS1 : Hid (s.data.toList.length = s.size) := Lib.hid (by simp)
        have HS2 : Hid (s'.data.toList.length = s'.size) := Lib.hid (by simp)
        by_cases hg : k < s.size ∧ k < s'.size
        · obtain ⟨h1, h2⟩ := hg
          have HA := Lib.hid (fun wx : World => (rahead_any (s[k].toNat : Int) (s'[k].toNat : Int) wx).mono fun e w' (h : e = .returned (.int .i64 (cmpI (s[k].toNat : Int) (s'[k].toNat : Int))) ∧ wx = w') => (show e = .returned (.int .i64 (cmpI (s[k].toNat : Int) (s'[k].toNat : Int))) ∧ Below wx.heap.size wx w' from ⟨h.1, h.2 ▸ Below.refl _ _⟩))
          by_cases hne : s[k] = s'[k]
          · have hn8 : ((s[k].toNat : Int) != (s'[k].toNat : Int)) = false := by rw [hne]; simp
            have HX := Lib.hid (take_byte s k h1)
            have HY := Lib.hid (take_byte s' k h2)
            have HE := Lib.hid hne
            clear hne HA
            go_wp2_with fail
            refine wp_region_steady [] 67 (by kernel_rfl) (by kernel_rfl) (by kernel_rfl) (by rfl) ?_
            iterate 9 (refine wpG_quiet (by rfl) (by rfl) (by rfl) (fun K hK => ?_); go_big_quiet_op; refine hK _ ?_; clear hK K)
            refine wpG_nil fun w1 hl _ => ?_
            have hle2 := Le.trans hle hl
            clear U2 V2 u2 v2 hl
            go_wp2_with fail
            go_roundw
            case rel =>
              refine ⟨k + 1, by omega, by omega, by go_num, Lib.hid ?_, hle2⟩
              rw [HX.out, HY.out, HT.out, HE.out]
            case measure => simp [intOf]; omega
          · have hn8 : ((s[k].toNat : Int) != (s'[k].toNat : Int)) = true := by
              rw [bne_iff_ne]; intro e; exact hne (UInt8.toNat_inj.1 (Int.ofNat_inj.1 e))
            have HR3 : Hid (r = cmpI (s[k].toNat : Int) (s'[k].toNat : Int)) := Lib.hid (by
              rw [HR2.out]; exact cmpS_diff (by rw [HS1.out]; exact h1) (by rw [HS2.out]; exact h2) HT.out hne)
            rw [← HR3.out] at HA
            have hb1 := UInt8.toNat_lt s[k]
            have hb2 := UInt8.toNat_lt s'[k]
            have hw1 : wrap64 (s[k].toNat : Int) = (s[k].toNat : Int) := by unfold wrap64; omega
            have hw2 : wrap64 (s'[k].toNat : Int) = (s'[k].toNat : Int) := by unfold wrap64; omega
            clear hne hb1 hb2
            go_wp2_with fail
            refine wp_region_steady [] 67 (by kernel_rfl) (by kernel_rfl) (by kernel_rfl) (by rfl) ?_
            iterate 9 (refine wpG_quiet (by rfl) (by rfl) (by rfl) (fun K hK => ?_); go_big_quiet_op; refine hK _ ?_; clear hK K)
            refine wpG_nil fun w1 hl _ => ?_
            have U2 : ∀ kk : LW w1, kk.val.cell? ⟨w.heap.size, 2, none⟩ = some (.string s) := fun kk => HP2.out _ (Le.trans (Le.trans hle hl) kk.le)
            have V2 : ∀ kk : LW w1, kk.val.cell? ⟨w.heap.size + 1, 2, none⟩ = some (.string s') := fun kk => HQ2.out _ (Le.trans (Le.trans hle hl) kk.le)
            have hle2 := Le.trans hle hl
            clear u2 v2 hl
            go_wp2_with fail
            refine wp_region_steady [] 67 (by kernel_rfl) (by kernel_rfl) (by kernel_rfl) (by rfl) ?_
            iterate 10 (refine wpG_quiet (by rfl) (by rfl) (by rfl) (fun K hK => ?_); go_big_quiet_op; refine hK _ ?_; clear hK K)
            refine wpG_call (by rfl) (by rfl) 80 #[.int .i64 (s[k].toNat : Int), .int .i64 (s'[k].toNat : Int)] (.int .i64 r) (by intro _; simp [go_sem, hw1, hw2]) (by kernel_rfl) (fun w1 hl => (HA.out w1)) ?_
            simp only [Act.put, List.setIfInBounds_toArray, List.set_cons_zero, List.set_cons_succ]
            iterate 1 (refine wpG_quiet (by rfl) (by rfl) (by rfl) (fun K hK => ?_); go_big_quiet_op; refine hK _ ?_; clear hK K)
            refine wpG_nil fun w2 hl _ => ?_
            have hb2 := hb.trans ((Le.trans hle2 hl).mono hb.size)
            clear hl hle2
            go_wp2_with fail
            go_ret
            exact ⟨rfl, hb2⟩
        · have HR3 : Hid (r = cmpI (s.size : Int) (s'.size : Int)) := Lib.hid (by
            rw [HR2.out, ← HS1.out, ← HS2.out]; exact cmpS_end (by rw [HS1.out]; exact hka) (by rw [HS2.out]; exact hkb) HT.out (by rw [HS1.out, HS2.out]; omega))
          by_cases h1 : k < s.size
          · have h2 : ¬ k < s'.size := fun h => hg ⟨h1, h⟩
            have hb2 := hb.trans (hle.mono hb.size)
            clear hg U2 V2
            go_wp2_with fail
            refine (rahead_any (s.size : Int) (s'.size : Int) _).mono ?_
            rintro e w1 ⟨rfl, rfl⟩
            go_wp2_with fail
            go_ret
            exact ⟨by rw [HR3.out]; rfl, hb2⟩
          · have hb2 := hb.trans (hle.mono hb.size)
            clear hg U2 V2
            go_wp2_with fail
            refine (rahead_any (s.size : Int) (s'.size : Int) _).mono ?_
            rintro e w1 ⟨rfl, rfl⟩
            go_wp2_with fail
            go_ret
            exact ⟨by rw [HR3.out]; rfl, hb2⟩
    · have hn1 : (n != n') = true := by simpa using hn
      have HR2 : Hid (r = cmpI n n') := Lib.hid (by rw [HR1.out, if_pos (by rw [ne_eq, cmpI_zero]; exact hn)])
      clear HR1 hn
      go_enter Tryd.func38, Tryd.ntmps38
      go_wp2_with fail
      refine (rahead_any n n' _).mono ?_
      rintro e w1 ⟨rfl, rfl⟩
      go_wp2_with fail
      go_ret
      exact ⟨by rw [HR2.out]; rfl, hb⟩
  · have hk1 : (k0 != k0') = true := by simpa using hk
    have HR1 : Hid (r = cmpI k0 k0') := Lib.hid (by rw [HR.out, if_pos (by rw [ne_eq, cmpI_zero]; exact hk)])
    clear HR hk
    go_enter Tryd.func38, Tryd.ntmps38
    go_wp2_with fail
    refine (rahead_any k0 k0' _).mono ?_
    rintro e w1 ⟨rfl, rfl⟩
    go_wp2_with fail
    go_ret
    exact ⟨by rw [HR1.out]; rfl, hb⟩
end Go.Proofs.YtgdidamjgaegkaaDoor
