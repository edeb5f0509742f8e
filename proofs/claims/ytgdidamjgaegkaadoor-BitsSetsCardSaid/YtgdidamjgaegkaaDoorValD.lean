/- Holds, texts in quotes, values' texts: what each returns; the chapter's examples. -/
import Derived.Test.YtgdidamjgaegkaaDoorValC
import Derived.Test.YtgdidamjgaegkaaDoorDoor
namespace Go.Proofs.YtgdidamjgaegkaaDoor
set_option linter.unusedVariables false
open Go Go.RowKit BitM ValM

def MaxV (m : Int) (w : World) : Prop := w.cell? ⟨0, 0, none⟩ = some (.int .i64 m)
theorem MaxV.later {m : Int} {w w' : World} (h : MaxV m w) (hb : Below w.heap.size w w') : MaxV m w' := max_later (B := 0) h hb

set_option maxRecDepth 100000 in
set_option maxHeartbeats 3200000 in
theorem vholds_any (a b : V3) (mm : Int) (w : World) (hs : a.2.2.size ≤ 1000) (hs' : b.2.2.size ≤ 1000) (hmm : MaxV mm w) :
    Calls Tryd.prog 43 #[.agg (vcells a).toArray, .agg (vcells b).toArray] w fun e w' => e = .returned (.bool (vholds a b)) ∧ Below w.heap.size w w' := by
  obtain ⟨k, n, s⟩ := a
  obtain ⟨k', n', s'⟩ := b
  have HF1 := Lib.hid (fun wx : World => vfold_any s wx (by simp only at hs; unfold maxLen; omega))
  have HF2 := Lib.hid (fun wx : World => vfold_any s' wx (by simp only at hs'; unfold maxLen; omega))
  have HC := Lib.hid (fun (wx : World) (hm : MaxV mm wx) => (Tryd.strings_Contains (str (fold s.data.toList)) (str (fold s'.data.toList)) mm wx (by rw [str_size]; unfold fold; rw [List.length_map]; simp only at hs; simp; omega) hm).mono fun e w' (h : e = .returned (.bool (Lib.contains (fold s.data.toList) (fold s'.data.toList))) ∧ w' = wx) => (show e = .returned (.bool (Lib.contains (fold s.data.toList) (fold s'.data.toList))) ∧ Below wx.heap.size wx w' from ⟨h.1, h.2 ▸ Below.refl _ _⟩))
  have HV : Hid (vholds (k, n, s) (k', n', s') = (decide (k = 2) && decide (k' = 2) && Lib.contains (fold s.data.toList) (fold s'.data.toList))) := Lib.hid rfl
  obtain ⟨v, hv⟩ : ∃ v, v = vholds (k, n, s) (k', n', s') := ⟨_, rfl⟩
  rw [← hv] at HV ⊢
  obtain ⟨cn, hcn⟩ : ∃ cn, cn = Lib.contains (fold s.data.toList) (fold s'.data.toList) := ⟨_, rfl⟩
  rw [← hcn] at HV HC
  obtain ⟨u, hu⟩ : ∃ u, u = str (fold s.data.toList) := ⟨_, rfl⟩
  rw [← hu] at HF1 HC
  obtain ⟨u', hu'⟩ : ∃ u', u' = str (fold s'.data.toList) := ⟨_, rfl⟩
  rw [← hu'] at HF2 HC
  obtain ⟨W, hW, B0, B1, hb⟩ := two_boxes (k, n, s) (k', n', s') w
  obtain ⟨ca, hca⟩ : ∃ ca, ca = (vcells (k, n, s)).toArray := ⟨_, rfl⟩
  obtain ⟨cb, hcb⟩ : ∃ cb, cb = (vcells (k', n', s')).toArray := ⟨_, rfl⟩
  rw [← hca, ← hcb] at hW
  rw [← hca, ← hcb]
  have HW := Lib.hid hW
  clear hv hcn hu hu' hca hcb hW hs hs'
  go_enter Tryd.func43, Tryd.ntmps43
  go_wp2_with fail
  rw [← HW.out]
  by_cases hk : k = 2
  · subst hk
    by_cases hk' : k' = 2
    · subst hk'
      have p0 : ∀ kk : LW W, kk.val.cell? ⟨w.heap.size, 0, none⟩ = some (.int .i64 2) := fun kk => (B0.later kk.le).val.1
      have p2 : ∀ kk : LW W, kk.val.cell? ⟨w.heap.size, 2, none⟩ = some (.string s) := fun kk => (B0.later kk.le).val.2.2
      have q0 : ∀ kk : LW W, kk.val.cell? ⟨w.heap.size + 1, 0, none⟩ = some (.int .i64 2) := fun kk => (B1.later kk.le).val.1
      have q2 : ∀ kk : LW W, kk.val.cell? ⟨w.heap.size + 1, 2, none⟩ = some (.string s') := fun kk => (B1.later kk.le).val.2.2
      refine wp_region_steady [] 22 (by kernel_rfl) (by kernel_rfl) (by kernel_rfl) (by rfl) ?_
      iterate 9 (refine wpG_quiet (by rfl) (by rfl) (by rfl) (fun K hK => ?_); go_big_quiet_op; refine hK _ ?_; clear hK K)
      iterate 2 (refine wpG_quiet (by rfl) (by rfl) (by rfl) (fun K hK => ?_); go_big_quiet_op; refine hK _ ?_; clear hK K)
      refine wpG_call (by rfl) (by rfl) 41 #[.string s] (.string u) (by intro _; simp [go_sem]) (by kernel_rfl) (fun w1 hl => (HF1.out w1)) ?_
      simp only [Act.put, List.setIfInBounds_toArray, List.set_cons_zero, List.set_cons_succ]
      iterate 2 (refine wpG_quiet (by rfl) (by rfl) (by rfl) (fun K hK => ?_); go_big_quiet_op; refine hK _ ?_; clear hK K)
      refine wpG_call (by rfl) (by rfl) 41 #[.string s'] (.string u') (by intro _; simp [go_sem]) (by kernel_rfl) (fun w1 hl => (HF2.out w1)) ?_
      simp only [Act.put, List.setIfInBounds_toArray, List.set_cons_zero, List.set_cons_succ]
      refine wpG_call (by rfl) (by rfl) 82 #[.string u, .string u'] (.bool cn) (by intro _; simp [go_sem]) (by kernel_rfl) (fun w1 hl => (HC.out w1 (hmm.later (hb.trans (hl.1.mono hb.size))))) ?_
      simp only [Act.put, List.setIfInBounds_toArray, List.set_cons_zero, List.set_cons_succ]
      iterate 2 (refine wpG_quiet (by rfl) (by rfl) (by rfl) (fun K hK => ?_); go_big_quiet_op; refine hK _ ?_; clear hK K)
      refine wpG_nil fun w1 hl _ => ?_
      have hb1 := hb.trans (hl.mono hb.size)
      clear p0 q0 p2 q2 B0 B1 hb
      go_wp2_with fail
      go_ret
      exact ⟨by rw [HV.out]; rfl, hb1⟩
    · have b1 : (k' == 2) = false := by simpa using hk'
      rw [decide_eq_false hk', Bool.and_false, Bool.false_and] at HV
      have p0 : ∀ kk : LW W, kk.val.cell? ⟨w.heap.size, 0, none⟩ = some (.int .i64 2) := fun kk => (B0.later kk.le).val.1
      have p2 : True := trivial
      have q0 : ∀ kk : LW W, kk.val.cell? ⟨w.heap.size + 1, 0, none⟩ = some (.int .i64 k') := fun kk => (B1.later kk.le).val.1
      have q2 : True := trivial
      clear hk'
      refine wp_region_steady [] 22 (by kernel_rfl) (by kernel_rfl) (by kernel_rfl) (by rfl) ?_
      iterate 9 (refine wpG_quiet (by rfl) (by rfl) (by rfl) (fun K hK => ?_); go_big_quiet_op; refine hK _ ?_; clear hK K)
      iterate 7 (refine wpG_skip (by rfl) ?_; simp only [Act.put, List.setIfInBounds_toArray, List.set_cons_zero, List.set_cons_succ])
      iterate 2 (refine wpG_quiet (by rfl) (by rfl) (by rfl) (fun K hK => ?_); go_big_quiet_op; refine hK _ ?_; clear hK K)
      refine wpG_nil fun w1 hl _ => ?_
      have hb1 := hb.trans (hl.mono hb.size)
      clear p0 q0 p2 q2 B0 B1 hb
      go_wp2_with fail
      go_ret
      exact ⟨by rw [HV.out]; rfl, hb1⟩
  · have b1 : (k == 2) = false := by simpa using hk
    rw [decide_eq_false hk, Bool.false_and, Bool.false_and] at HV
    have p0 : ∀ kk : LW W, kk.val.cell? ⟨w.heap.size, 0, none⟩ = some (.int .i64 k) := fun kk => (B0.later kk.le).val.1
    have p2 : True := trivial
    have q0 : True := trivial
    have q2 : True := trivial
    clear hk
    refine wp_region_steady [] 22 (by kernel_rfl) (by kernel_rfl) (by kernel_rfl) (by rfl) ?_
    iterate 4 (refine wpG_quiet (by rfl) (by rfl) (by rfl) (fun K hK => ?_); go_big_quiet_op; refine hK _ ?_; clear hK K)
    iterate 3 (refine wpG_skip (by rfl) ?_; simp only [Act.put, List.setIfInBounds_toArray, List.set_cons_zero, List.set_cons_succ])
    iterate 2 (refine wpG_quiet (by rfl) (by rfl) (by rfl) (fun K hK => ?_); go_big_quiet_op; refine hK _ ?_; clear hK K)
    iterate 7 (refine wpG_skip (by rfl) ?_; simp only [Act.put, List.setIfInBounds_toArray, List.set_cons_zero, List.set_cons_succ])
    iterate 2 (refine wpG_quiet (by rfl) (by rfl) (by rfl) (fun K hK => ?_); go_big_quiet_op; refine hK _ ?_; clear hK K)
    refine wpG_nil fun w1 hl _ => ?_
    have hb1 := hb.trans (hl.mono hb.size)
    clear p0 q0 p2 q2 B0 B1 hb
    go_wp2_with fail
    go_ret
    exact ⟨by rw [HV.out]; rfl, hb1⟩

theorem info_byte : (Tryd.prog.info? 5).map (fun i => (i.zero, i.size, i.bytes)) = some (some (.int .u8 0), 1, 1) := by kernel_rfl
theorem quo_snoc (l : List UInt8) (k : Nat) (h : k < l.length) : [34] ++ qpl (l.take (k + 1)) = ([34] ++ qpl (l.take k)) ++ esc l[k] := by
  rw [List.take_succ_eq_append_getElem h, qpl_snoc, List.append_assoc]
set_option maxRecDepth 100000 in
set_option maxHeartbeats 3200000 in
theorem quote_plain (s : ByteArray) (w : World) (hs : s.size ≤ 1000) (hp : ∀ c ∈ s.data.toList, 32 ≤ c.toNat ∧ c.toNat ≤ 126) :
    Calls Tryd.prog 47 #[.string s] w fun e w' => e = .returned (.string (str ([34] ++ qpl s.data.toList ++ [34]))) ∧ Below w.heap.size w w' := by
  obtain ⟨i0, hi, hz0, hz1, hz2⟩ := info_parts info_byte
  have HN : Hid (s.data.toList.length = s.size) := Lib.hid (by simp)
  have HP := Lib.hid hp
  obtain ⟨u, hu⟩ : ∃ u, u = str ([34] ++ qpl s.data.toList ++ [34]) := ⟨_, rfl⟩
  rw [← hu]
  have HU := Lib.hid hu
  have HG : Hid (∀ (k : Nat) (h : k < s.size) (h2 : k < s.data.toList.length), s[k] = s.data.toList[k]) := Lib.hid (fun k h h2 => rfl)
  clear hp hu
  go_enter Tryd.func47, Tryd.ntmps47
  go_wp2_with fail
  go_loopw [3, 9] (fun v i wr => ∃ k m : Nat, k ≤ s.size ∧ i = .int .i64 k ∧ m ≤ 2001 ∧ (∃ A1 c1, v = .slice A1 m c1 ∧ Own wr w.heap.size 5 v (bvs ([34] ++ qpl (s.data.toList.take k))) ∧ Hid (m = ([34] ++ qpl (s.data.toList.take k)).length)) ∧ Below w.heap.size w wr) (fun _ i _ => s.size - (intOf i).toNat)
  case atStart => exact ⟨0, 1, Nat.zero_le _, rfl, by omega, ⟨some ⟨w.heap.size, 0, none⟩, 1, rfl, own_lit w w.heap.size 5 #[.int .u8 34] (Nat.le_refl _) (by simp [maxLen]), Lib.hid rfl⟩, (Below.refl _ _).alloc (Nat.le_refl _) _⟩
  case round =>
    obtain ⟨k, m, hk, rfl, hm, ⟨A1, c1, rfl, hown, HM⟩, hbr⟩ := hrel
    obtain ⟨acc, hacc⟩ : ∃ acc, acc = [34] ++ qpl (s.data.toList.take k) := ⟨_, rfl⟩
    rw [← hacc] at hown HM
    have HACC := Lib.hid hacc
    clear hacc
    by_cases hlt : k < s.size
    · have hkl : k < s.data.toList.length := by rw [HN.out]; exact hlt
      have HS := Lib.hid (quo_snoc s.data.toList k hkl)
      rw [← HACC.out, ← HG.out k hlt hkl] at HS
      have hpp := HP.out s.data.toList[k] (List.getElem_mem _)
      rw [← HG.out k hlt hkl] at hpp
      have hm2 : m + 2 ≤ 2001 := by
        have h1 := qpl_len (s.data.toList.take k)
        rw [List.length_take, Nat.min_eq_left (by omega)] at h1
        have h2 := HM.out
        rw [HACC.out, List.length_append] at h2
        simp only [List.length_cons, List.length_nil] at h2
        omega
      have h32 : (32 : Int) ≤ ((s[k]'hlt).toNat : Int) := by omega
      have h126 : ((s[k]'hlt).toNat : Int) ≤ 126 := by omega
      clear hpp
      by_cases hq : s[k] = 34 ∨ s[k] = 92
      · have HE : Hid (esc s[k] = [92] ++ [s[k]]) := Lib.hid (by unfold esc; rw [if_pos hq]; rfl)
        have HS2 : Hid ([34] ++ qpl (s.data.toList.take (k + 1)) = acc ++ [92] ++ [s[k]]) := Lib.hid (by rw [HS.out, HE.out, List.append_assoc])
        have key : (((s[k]'hlt).toNat : Int) == 34) = true ∨ ((((s[k]'hlt).toNat : Int) == 34) = false ∧ (((s[k]'hlt).toNat : Int) == 92) = true) := by
          rcases hq with h | h
          · left; rw [h]; rfl
          · right; rw [h]; exact ⟨rfl, rfl⟩
        clear hq HS HE
        rcases key with b1 | ⟨b1, b2⟩
        all_goals
          go_wp2_with (first
            | (at_builtin
               refine wpList_app _ rfl (.tmp 29) (.tmp 30) _ rfl w.heap.size 5 i0 _ 1 Tryd.underlying68 hi hz0 hz1 hz2 rfl (.slice A1 m c1) (bvs acc) m rfl (by rw [bvs_length, HM.out]) (hown.alloc _) (wr.heap.size + 1) (some ⟨wr.heap.size, 0, none⟩) 1 (bvs [92]) 1 rfl rfl (sees_lit wr _ 5 (0, 0) _ rfl) (bvs_one _) (by simp [maxLen]; omega) (by omega) (by have := hbr.size; simp; omega) ?_
               intro A8 c8 w8 hown8 hb8 hg8 hat8
               rw [← bvs_append] at hown8
               have hbr8 : Below w.heap.size w w8 := (hbr.alloc hbr.size _).trans hb8
               clear hg8 hat8 hb8 hown)
            | (at_builtin
               refine wpList_app _ rfl (.tmp 32) (.tmp 34) _ rfl w.heap.size 5 i0 _ 1 Tryd.underlying68 hi hz0 hz1 hz2 rfl (.slice A8 (m + 1) c8) (bvs (acc ++ [92])) (m + 1) rfl (by rw [bvs_length, List.length_append, HM.out]; first | done | rfl) (hown8.alloc _) (w8.heap.size + 1) (some ⟨w8.heap.size, 0, none⟩) 1 (bvs [s[k]]) 1 rfl rfl (sees_lit w8 _ 5 (0, 0) _ rfl) (bvs_one _) (by simp [maxLen]; omega) (by omega) (by have := hbr8.size; simp; omega) ?_
               intro A9 c9 w9 hown9 hb9 hg9 hat9)
            | fail)
          rw [← bvs_append, ← HS2.out] at hown9
          have hbr9 : Below w.heap.size w w9 := (hbr8.alloc hbr8.size _).trans hb9
          go_roundw
          case rel => exact ⟨k + 1, m + 1 + 1, by omega, by go_num, by omega, ⟨A9, c9, rfl, hown9, Lib.hid (by rw [HS2.out, List.length_append, List.length_append, HM.out]; first | done | rfl)⟩, hbr9⟩
          case measure => simp [intOf]; omega
      · have HE : Hid (esc s[k] = [s[k]]) := Lib.hid (by unfold esc; rw [if_neg hq])
        have HS2 : Hid ([34] ++ qpl (s.data.toList.take (k + 1)) = acc ++ [s[k]]) := Lib.hid (by rw [HS.out, HE.out])
        have b1 : (((s[k]'hlt).toNat : Int) == 34) = false := by
          rw [beq_eq_false_iff_ne]; intro e
          exact hq (.inl (UInt8.toNat_inj.1 (by have : (34 : UInt8).toNat = 34 := rfl; omega)))
        have b2 : (((s[k]'hlt).toNat : Int) == 92) = false := by
          rw [beq_eq_false_iff_ne]; intro e
          exact hq (.inr (UInt8.toNat_inj.1 (by have : (92 : UInt8).toNat = 92 := rfl; omega)))
        clear hq HS HE
        go_wp2_with (first
          | (at_builtin
             refine wpList_app _ rfl (.tmp 32) (.tmp 34) _ rfl w.heap.size 5 i0 _ 1 Tryd.underlying68 hi hz0 hz1 hz2 rfl (.slice A1 m c1) (bvs acc) m rfl (by rw [bvs_length, HM.out]) (hown.alloc _) (wr.heap.size + 1) (some ⟨wr.heap.size, 0, none⟩) 1 (bvs [s[k]]) 1 rfl rfl (sees_lit wr _ 5 (0, 0) _ rfl) (bvs_one _) (by simp [maxLen]; omega) (by omega) (by have := hbr.size; simp; omega) ?_
             intro A9 c9 w9 hown9 hb9 hg9 hat9)
          | fail)
        rw [← bvs_append, ← HS2.out] at hown9
        have hbr9 : Below w.heap.size w w9 := (hbr.alloc hbr.size _).trans hb9
        go_roundw
        case rel => exact ⟨k + 1, m + 1, by omega, by go_num, by omega, ⟨A9, c9, rfl, hown9, Lib.hid (by rw [HS2.out, List.length_append, HM.out]; first | done | rfl)⟩, hbr9⟩
        case measure => simp [intOf]; omega
    · obtain rfl : k = s.size := by omega
      have HA2 : Hid (acc = [34] ++ qpl s.data.toList) := Lib.hid (by rw [HACC.out, ← HN.out, List.take_length])
      go_wp2_with (first
        | (at_builtin
           refine wpList_app _ rfl (.tmp 46) (.tmp 47) _ rfl w.heap.size 5 i0 _ 1 Tryd.underlying68 hi hz0 hz1 hz2 rfl (.slice A1 m c1) (bvs acc) m rfl (by rw [bvs_length, HM.out]) (hown.alloc _) (wr.heap.size + 1) (some ⟨wr.heap.size, 0, none⟩) 1 (bvs [34]) 1 rfl rfl (sees_lit wr _ 5 (0, 0) _ rfl) (bvs_one _) (by simp [maxLen]; omega) (by omega) (by have := hbr.size; simp; omega) ?_
           intro A9 c9 w9 hown9 hb9 hg9 hat9
           rw [← bvs_append] at hown9
           have hcv := run_str (P := Tryd.prog) w9 w9.heap.size 68 5 9 Tryd.underlying68 Tryd.underlying5 Tryd.underlying9 A9 (m + 1) c9 (acc ++ [34]) (by rw [List.length_append, HM.out]; first | done | rfl) hown9.sees
           rw [HA2.out, ← HU.out] at hcv
           clear hown9)
        | fail)
      have hbr9 : Below w.heap.size w w9 := (hbr.alloc hbr.size _).trans hb9
      go_ret
      exact ⟨rfl, hbr9⟩
end Go.Proofs.YtgdidamjgaegkaaDoor
