/- CardwireReads: the walk. -/
import Derived.Test.YticdpfjajkfheaaP10
import Derived.Test.YticdpfjajkfheaaP11
import Derived.Test.YticdpfjajkfheaaP13
import Derived.Test.YticdpfjajkfheaaP12
namespace Go.Proofs.Yticdpfjajkfheaa
set_option linter.unusedVariables false
set_option linter.unusedSimpArgs false
open Go Go.RowKit OctM

theorem guard_patch : Try.prog.eqGuardType Try.prog.depth 29 = false := by kernel_rfl
theorem same_v (v : V3) (w : World) : (Op.equalIn 10000 24 (.agg (vcells v).toArray) (.agg (vcells v).toArray)).run Try.prog w = .ok true w := by
  rw [eq_val 9998 v v w, decide_eq_true rfl]
theorem same_c (id ver lab : Int) (f : List V3) (hf : f.length = 8) (w : World) : (Op.equalIn 10000 27 (.agg (ccells id ver lab f).toArray) (.agg (ccells id ver lab f).toArray)).run Try.prog w = .ok true w := by
  rw [eq_card 9996 id ver lab id ver lab f f hf hf w, decide_eq_true (show id = id ∧ ver = ver ∧ lab = lab ∧ f = f from ⟨rfl, rfl, rfl, rfl⟩)]
theorem same_p (m lab : Int) (f : List V3) (hf : f.length = 8) (w : World) : (Op.equalIn 10000 29 (.agg (pcells m lab f).toArray) (.agg (pcells m lab f).toArray)).run Try.prog w = .ok true w := by
  rw [eq_patch 9996 m lab m lab f f hf hf w, decide_eq_true (show m = m ∧ lab = lab ∧ f = f from ⟨rfl, rfl, rfl⟩)]

set_option maxRecDepth 100000 in
set_option maxHeartbeats 6400000 in
theorem walk_cwreads (A : Option Addr) (n c : Nat) (l : List UInt8) (B : Option Addr) (nk ck : Nat) (ks : List Int) (w : World) (hn : l.length = n) (hs : Sees w w.heap.size A (bvs l)) (hkn : ks.length = nk) (hkm : nk ≤ maxLen) (ht : Sees w w.heap.size B (ivs ks)) :
    Calls Try.prog 4 #[.slice A n c, .slice B nk ck] w fun e w' => e = .returned (.bool true) ∧ Below w.heap.size w w' := by
  have HAW := Lib.hid (fun (wx : World) => wire_awake wx)
  unfold maxLen at hkm
  by_cases h5 : n ≤ 1000
  · have d3 : decide ((1000 : Int) < (n : Int)) = false := by simp; omega
    have HN := Lib.hid (rd_new A n c l w hn hs (by omega))
    have HNL := Lib.hid hn
    have HKN := Lib.hid hkn
    clear hkn
    go_enter Try.func4, Try.ntmps4
    go_wp2_with fail
    refine HN.out.mono ?_
    rintro e w1 ⟨gr, rfl, r1, b1⟩
    obtain ⟨sl, hsl⟩ : ∃ sl, sl = str l := ⟨_, rfl⟩
    have hc1 := str_conv w1 w1.heap.size A n c l sl HNL.out ((hs.below b1).more b1.size) hsl
    have hgr := r1.block
    have HSL := Lib.hid hsl
    clear hn hsl
    go_wp2_with fail
    have T0 : Same2 w (w1.alloc (.cells #[.string sl, .int .i64 0] 46)) gr w1.heap.size l 0 0 := by
      refine ⟨⟨r1.later ((Below.refl _ _).alloc (Nat.le_refl _) _), ?_, hgr.2, b1.alloc b1.size _⟩, Nat.zero_le _, by rw [HNL.out]; omega⟩
      have h := own_lit w1 w.heap.size 46 #[.string sl, .int .i64 0] b1.size (by simp [maxLen])
      rw [HSL.out] at h ⊢
      exact h
    generalize hgm : w1.heap.size = gm at T0 ⊢
    clear hc1 r1 b1 hgr hgm HSL HN
    go_loopw [7] (fun i wr => ∃ (k a : Nat) (e : Int), k ≤ 20 ∧ k ≤ nk ∧ i = .int .i64 k ∧ Same2 w wr gr gm l a e) (fun i _ => 20 - (intOf i).toNat)
    case atStart => exact ⟨0, 0, 0, by omega, by omega, rfl, T0⟩
    case round =>
      obtain ⟨k, a, e, hk, hk2, rfl, T, ha, hm⟩ := hrel
      have HT := Lib.hid T
      clear T0 d3
      by_cases hl1 : k < nk
      · have q1 : decide ((k : Int) < (nk : Int)) = true := by simp; omega
        by_cases hl2 : k < 20
        · have q2 : decide ((k : Int) < 20) = true := by simp; omega
          have hkk : k < ks.length := by rw [HKN.out]; exact hl1
          obtain ⟨b, o, rfl, hb, ck0⟩ := ht.int k hkk
          have ck1 : ∀ {wx : World} {l' : List UInt8} {a' : Nat} {e' : Int} {l2 : List UInt8} {e2 : Int}, Two w wx gr gm l' a' e' l2 e2 → wx.cell? ⟨b, o + k, none⟩ = some (.int .i64 ks[k]) := fun h => (h.2.2.2.cell (p := ⟨b, o + k, none⟩) hb).trans ck0
          have cz := ck1 T
          obtain ⟨z, hz⟩ : ∃ z, z = ks[k] := ⟨_, rfl⟩
          rw [← hz] at cz
          clear ck0 ck1 hz hs T ht
          have k0 : (0 : Int) ≤ (k : Int) := by omega
          have kn : (k : Int) < (nk : Int) := by omega
          by_cases z0 : z = 0
          · have t0 : (z == 0) = true := by simpa using z0
            clear z0
            have ha2 := valOut_at l a e ha
            have H1 := Lib.hid (fun wx (T : Two w wx gr gm l a e (l.drop a) e) => (rd_value _ gr l a e wx T.1 ha hm).mono fun x w' h => (show x = .returned (.agg (vcells (valOut l a e).1).toArray) ∧ Two w w' gr gm l (valOut l a e).2.1 (valOut l a e).2.2 (l.drop a) e from ⟨h.1, T.first h.2.1 h.2.2⟩))
            have H2 := Lib.hid (fun wx (T : Two w wx gr gm l (valOut l a e).2.1 (valOut l a e).2.2 (l.drop a) e) => (rr_value _ gm l a e wx T.2.1 ha hm).mono fun x w' h => (show x = .returned (.agg (vcells (valOut l a e).1).toArray) ∧ Two w w' gr gm l (valOut l a e).2.1 (valOut l a e).2.2 (l.drop (valOut l a e).2.1) (valOut l a e).2.2 from ⟨h.1, T.second h.2.1 h.2.2⟩))
            obtain ⟨cs, hcs⟩ : ∃ cs, cs = vcells (valOut l a e).1 := ⟨_, rfl⟩
            have HSC : Hid (∀ wx : World, (Op.equalIn 10000 24 (.agg cs.toArray) (.agg cs.toArray)).run Try.prog wx = .ok true wx) := Lib.hid (fun wx => by rw [hcs]; exact same_v _ wx)
            rw [← hcs] at H1 H2
            clear hcs
            obtain ⟨⟨q0, a2, e2⟩, hq⟩ : ∃ q, q = valOut l a e := ⟨_, rfl⟩
            rw [← hq] at H1 H2 ha2
            simp only at H1 H2 ha2
            clear hq
            go_wp2_with fail
            refine (H1.out _ HT.out).mono ?_
            rintro e' w3 ⟨rfl, T3⟩
            go_wp2_with fail
            refine (H2.out _ T3).mono ?_
            rintro e' w5 ⟨rfl, T5⟩
            clear T3
            obtain ⟨rest, hrest⟩ : ∃ r, r = l.length - a2 := ⟨_, rfl⟩
            obtain ⟨sr, hsr⟩ : ∃ sr, sr = str (l.drop a2) := ⟨_, rfl⟩
            have zr : sr.size = rest := by rw [hsr, str_size, List.length_drop, hrest]
            have hr2 : rest ≤ 2000 := by omega
            have HLE := Lib.hid (fun wx (T : Two w wx gr gm l a2 e2 (l.drop a2) e2) => two_left T ha2 hm rest hrest)
            have HER := Lib.hid (fun wx (T : Two w wx gr gm l a2 e2 (l.drop a2) e2) => two_err T)
            have hm0 : ∀ k : LW w5, k.val.cell? ⟨gm, 0, none⟩ = some (.string sr) := fun k => by rw [hsr]; exact (two_cells (T5.later k.le)).1
            have hm1 : ∀ k : LW w5, k.val.cell? ⟨gm, 1, none⟩ = some (.int .i64 e2) := fun k => (two_cells (T5.later k.le)).2
            clear hrest hsr
            go_wp2_with (first
              | (refine wpList_exec (by rfl) (.bool false) (exec_neq 24 _ (.tmp 40) (.tmp 42) rfl _ _ rfl rfl guard_val true (HSC.out _)) ?_)
              | fail)
            refine wp_region_steady [] 84 (by kernel_rfl) (by kernel_rfl) (by kernel_rfl) (by rfl) ?_
            simp only [Act.put, List.setIfInBounds_toArray, List.set_cons_zero, List.set_cons_succ]
            iterate 1 (refine wpG_quiet (by rfl) (by rfl) (by rfl) (fun K hK => ?_); go_big_quiet_op; refine hK _ ?_; clear hK K)
            refine wpG_call (by rfl) (by rfl) 22 #[.pointer (some ⟨gr, 0, none⟩)] (.int .i64 e2) (by intro _; simp [go_sem]) (by kernel_rfl) (fun w1 hl => HER.out w1 (T5.later hl.1)) ?_
            simp only [Act.put, List.setIfInBounds_toArray, List.set_cons_zero, List.set_cons_succ]
            iterate 7 (refine wpG_quiet (by rfl) (by rfl) (by rfl) (fun K hK => ?_); go_big_quiet_op; refine hK _ ?_; clear hK K)
            refine wpG_call (by rfl) (by rfl) 23 #[.pointer (some ⟨gr, 0, none⟩)] (.int .i64 rest) (by intro _; simp [go_sem]) (by kernel_rfl) (fun w1 hl => HLE.out w1 (T5.later hl.1)) ?_
            simp only [Act.put, List.setIfInBounds_toArray, List.set_cons_zero, List.set_cons_succ]
            iterate 7 (refine wpG_quiet (by rfl) (by rfl) (by rfl) (fun K hK => ?_); go_big_quiet_op; refine hK _ ?_; clear hK K)
            refine wpG_nil (fun w6 hl6 _ => ?_)
            have T6 := T5.later hl6
            go_wp2_with fail
            go_roundw
            case rel => exact ⟨k + 1, a2, e2, by omega, by omega, by go_num, T6, ha2, hm⟩
            case measure => simp [intOf]; omega
          · have t0 : (z == 0) = false := by simpa using z0
            by_cases z1 : z = 1
            · have t1 : (z == 1) = true := by simpa using z1
              clear z0 z1
              have ha2 := cardOut_at l a e ha
              have H1 := Lib.hid (fun wx (T : Two w wx gr gm l a e (l.drop a) e) => (rd_card _ gr l a e wx T.1 ha hm).mono fun x w' h => (show x = .returned (.agg (cc4 (cardOut l a e).1).toArray) ∧ Two w w' gr gm l (cardOut l a e).2.1 (cardOut l a e).2.2 (l.drop a) e from ⟨h.1, T.first h.2.1 h.2.2⟩))
              have H2 := Lib.hid (fun wx (T : Two w wx gr gm l (cardOut l a e).2.1 (cardOut l a e).2.2 (l.drop a) e) => (rr_card _ gm l a e wx T.2.1 ha hm).mono fun x w' h => (show x = .returned (.agg (cc4 (cardOut l a e).1).toArray) ∧ Two w w' gr gm l (cardOut l a e).2.1 (cardOut l a e).2.2 (l.drop (cardOut l a e).2.1) (cardOut l a e).2.2 from ⟨h.1, T.second h.2.1 h.2.2⟩))
              obtain ⟨cs, hcs⟩ : ∃ cs, cs = cc4 (cardOut l a e).1 := ⟨_, rfl⟩
              have HSC : Hid (∀ wx : World, (Op.equalIn 10000 27 (.agg cs.toArray) (.agg cs.toArray)).run Try.prog wx = .ok true wx) := Lib.hid (fun wx => by rw [hcs]; exact same_c _ _ _ _ (cardOut_len l a e) wx)
              rw [← hcs] at H1 H2
              clear hcs
              obtain ⟨⟨q0, a2, e2⟩, hq⟩ : ∃ q, q = cardOut l a e := ⟨_, rfl⟩
              rw [← hq] at H1 H2 ha2
              simp only at H1 H2 ha2
              clear hq
              go_wp2_with fail
              refine (H1.out _ HT.out).mono ?_
              rintro e' w3 ⟨rfl, T3⟩
              go_wp2_with fail
              refine (H2.out _ T3).mono ?_
              rintro e' w5 ⟨rfl, T5⟩
              clear T3
              obtain ⟨rest, hrest⟩ : ∃ r, r = l.length - a2 := ⟨_, rfl⟩
              obtain ⟨sr, hsr⟩ : ∃ sr, sr = str (l.drop a2) := ⟨_, rfl⟩
              have zr : sr.size = rest := by rw [hsr, str_size, List.length_drop, hrest]
              have hr2 : rest ≤ 2000 := by omega
              have HLE := Lib.hid (fun wx (T : Two w wx gr gm l a2 e2 (l.drop a2) e2) => two_left T ha2 hm rest hrest)
              have HER := Lib.hid (fun wx (T : Two w wx gr gm l a2 e2 (l.drop a2) e2) => two_err T)
              have hm0 : ∀ k : LW w5, k.val.cell? ⟨gm, 0, none⟩ = some (.string sr) := fun k => by rw [hsr]; exact (two_cells (T5.later k.le)).1
              have hm1 : ∀ k : LW w5, k.val.cell? ⟨gm, 1, none⟩ = some (.int .i64 e2) := fun k => (two_cells (T5.later k.le)).2
              clear hrest hsr
              go_wp2_with (first
                | (refine wpList_exec (by rfl) (.bool false) (exec_neq 27 _ (.tmp 47) (.tmp 49) rfl _ _ rfl rfl guard_card true (HSC.out _)) ?_)
                | fail)
              refine wp_region_steady [] 84 (by kernel_rfl) (by kernel_rfl) (by kernel_rfl) (by rfl) ?_
              simp only [Act.put, List.setIfInBounds_toArray, List.set_cons_zero, List.set_cons_succ]
              iterate 1 (refine wpG_quiet (by rfl) (by rfl) (by rfl) (fun K hK => ?_); go_big_quiet_op; refine hK _ ?_; clear hK K)
              refine wpG_call (by rfl) (by rfl) 22 #[.pointer (some ⟨gr, 0, none⟩)] (.int .i64 e2) (by intro _; simp [go_sem]) (by kernel_rfl) (fun w1 hl => HER.out w1 (T5.later hl.1)) ?_
              simp only [Act.put, List.setIfInBounds_toArray, List.set_cons_zero, List.set_cons_succ]
              iterate 7 (refine wpG_quiet (by rfl) (by rfl) (by rfl) (fun K hK => ?_); go_big_quiet_op; refine hK _ ?_; clear hK K)
              refine wpG_call (by rfl) (by rfl) 23 #[.pointer (some ⟨gr, 0, none⟩)] (.int .i64 rest) (by intro _; simp [go_sem]) (by kernel_rfl) (fun w1 hl => HLE.out w1 (T5.later hl.1)) ?_
              simp only [Act.put, List.setIfInBounds_toArray, List.set_cons_zero, List.set_cons_succ]
              iterate 7 (refine wpG_quiet (by rfl) (by rfl) (by rfl) (fun K hK => ?_); go_big_quiet_op; refine hK _ ?_; clear hK K)
              refine wpG_nil (fun w6 hl6 _ => ?_)
              have T6 := T5.later hl6
              go_wp2_with fail
              go_roundw
              case rel => exact ⟨k + 1, a2, e2, by omega, by omega, by go_num, T6, ha2, hm⟩
              case measure => simp [intOf]; omega
            · have t1 : (z == 1) = false := by simpa using z1
              clear z0 z1
              have ha2 := patOut_at l a e ha
              have H1 := Lib.hid (fun wx (T : Two w wx gr gm l a e (l.drop a) e) => (rd_patch _ gr l a e wx T.1 ha hm).mono fun x w' h => (show x = .returned (.agg (pc3 (patOut l a e).1).toArray) ∧ Two w w' gr gm l (patOut l a e).2.1 (patOut l a e).2.2 (l.drop a) e from ⟨h.1, T.first h.2.1 h.2.2⟩))
              have H2 := Lib.hid (fun wx (T : Two w wx gr gm l (patOut l a e).2.1 (patOut l a e).2.2 (l.drop a) e) => (rr_patch _ gm l a e wx T.2.1 ha hm).mono fun x w' h => (show x = .returned (.agg (pc3 (patOut l a e).1).toArray) ∧ Two w w' gr gm l (patOut l a e).2.1 (patOut l a e).2.2 (l.drop (patOut l a e).2.1) (patOut l a e).2.2 from ⟨h.1, T.second h.2.1 h.2.2⟩))
              obtain ⟨cs, hcs⟩ : ∃ cs, cs = pc3 (patOut l a e).1 := ⟨_, rfl⟩
              have HSC : Hid (∀ wx : World, (Op.equalIn 10000 29 (.agg cs.toArray) (.agg cs.toArray)).run Try.prog wx = .ok true wx) := Lib.hid (fun wx => by rw [hcs]; exact same_p _ _ _ (patOut_len l a e) wx)
              rw [← hcs] at H1 H2
              clear hcs
              obtain ⟨⟨q0, a2, e2⟩, hq⟩ : ∃ q, q = patOut l a e := ⟨_, rfl⟩
              rw [← hq] at H1 H2 ha2
              simp only at H1 H2 ha2
              clear hq
              go_wp2_with fail
              refine (H1.out _ HT.out).mono ?_
              rintro e' w3 ⟨rfl, T3⟩
              go_wp2_with fail
              refine (H2.out _ T3).mono ?_
              rintro e' w5 ⟨rfl, T5⟩
              clear T3
              obtain ⟨rest, hrest⟩ : ∃ r, r = l.length - a2 := ⟨_, rfl⟩
              obtain ⟨sr, hsr⟩ : ∃ sr, sr = str (l.drop a2) := ⟨_, rfl⟩
              have zr : sr.size = rest := by rw [hsr, str_size, List.length_drop, hrest]
              have hr2 : rest ≤ 2000 := by omega
              have HLE := Lib.hid (fun wx (T : Two w wx gr gm l a2 e2 (l.drop a2) e2) => two_left T ha2 hm rest hrest)
              have HER := Lib.hid (fun wx (T : Two w wx gr gm l a2 e2 (l.drop a2) e2) => two_err T)
              have hm0 : ∀ k : LW w5, k.val.cell? ⟨gm, 0, none⟩ = some (.string sr) := fun k => by rw [hsr]; exact (two_cells (T5.later k.le)).1
              have hm1 : ∀ k : LW w5, k.val.cell? ⟨gm, 1, none⟩ = some (.int .i64 e2) := fun k => (two_cells (T5.later k.le)).2
              clear hrest hsr
              go_wp2_with (first
                | (refine wpList_exec (by rfl) (.bool false) (exec_neq 29 _ (.tmp 33) (.tmp 35) rfl _ _ rfl rfl guard_patch true (HSC.out _)) ?_)
                | fail)
              refine wp_region_steady [] 84 (by kernel_rfl) (by kernel_rfl) (by kernel_rfl) (by rfl) ?_
              simp only [Act.put, List.setIfInBounds_toArray, List.set_cons_zero, List.set_cons_succ]
              iterate 1 (refine wpG_quiet (by rfl) (by rfl) (by rfl) (fun K hK => ?_); go_big_quiet_op; refine hK _ ?_; clear hK K)
              refine wpG_call (by rfl) (by rfl) 22 #[.pointer (some ⟨gr, 0, none⟩)] (.int .i64 e2) (by intro _; simp [go_sem]) (by kernel_rfl) (fun w1 hl => HER.out w1 (T5.later hl.1)) ?_
              simp only [Act.put, List.setIfInBounds_toArray, List.set_cons_zero, List.set_cons_succ]
              iterate 7 (refine wpG_quiet (by rfl) (by rfl) (by rfl) (fun K hK => ?_); go_big_quiet_op; refine hK _ ?_; clear hK K)
              refine wpG_call (by rfl) (by rfl) 23 #[.pointer (some ⟨gr, 0, none⟩)] (.int .i64 rest) (by intro _; simp [go_sem]) (by kernel_rfl) (fun w1 hl => HLE.out w1 (T5.later hl.1)) ?_
              simp only [Act.put, List.setIfInBounds_toArray, List.set_cons_zero, List.set_cons_succ]
              iterate 7 (refine wpG_quiet (by rfl) (by rfl) (by rfl) (fun K hK => ?_); go_big_quiet_op; refine hK _ ?_; clear hK K)
              refine wpG_nil (fun w6 hl6 _ => ?_)
              have T6 := T5.later hl6
              go_wp2_with fail
              go_roundw
              case rel => exact ⟨k + 1, a2, e2, by omega, by omega, by go_num, T6, ha2, hm⟩
              case measure => simp [intOf]; omega
        · have q2 : decide ((k : Int) < 20) = false := by simp; omega
          clear hs T ht
          go_wp2_with fail
          refine (nil_value _).mono ?_
          rintro e' w2 ⟨rfl, b2⟩
          have T2 := HT.out.later b2
          clear HT b2
          go_wp2_with (first
            | (refine wpList_exec (by rfl) (.bool true) (exec_eql 24 _ (.tmp 68) (.tmp 69) rfl (vcells zv).toArray (vcells zv).toArray (by rfl) (by rfl) guard_val true (same_v zv _)) ?_)
            | fail)
          refine (nil_card _).mono ?_
          rintro e' w3 ⟨rfl, b3⟩
          have T3 := T2.later b3
          clear T2 b3
          go_wp2_with (first
            | (refine wpList_exec (by rfl) (.bool true) (exec_eql 27 _ (.tmp 72) (.tmp 73) rfl (ccells 0 0 0 zeros).toArray (ccells 0 0 0 zeros).toArray (by rfl) (by rfl) guard_card true (same_c 0 0 0 zeros zeros_len _)) ?_)
            | fail)
          refine (nil_patch _).mono ?_
          rintro e' w4 ⟨rfl, b4⟩
          have T4 := T3.later b4
          clear T3 b4
          go_wp2_with (first
            | (refine wpList_exec (by rfl) (.bool true) (exec_eql 29 _ (.tmp 77) (.tmp 78) rfl (pcells 0 0 zeros).toArray (pcells 0 0 zeros).toArray (by rfl) (by rfl) guard_patch true (same_p 0 0 zeros zeros_len _)) ?_)
            | fail)
          refine (HAW.out _).mono ?_
          rintro e' w6 ⟨rfl, b6⟩
          have T6 := T4.later b6
          go_wp2_with fail
          go_ret
          exact ⟨rfl, T6.2.2.2⟩
      · have q1 : decide ((k : Int) < (nk : Int)) = false := by simp; omega
        clear hs T ht
        go_wp2_with fail
        refine (nil_value _).mono ?_
        rintro e' w2 ⟨rfl, b2⟩
        have T2 := HT.out.later b2
        clear HT b2
        go_wp2_with (first
          | (refine wpList_exec (by rfl) (.bool true) (exec_eql 24 _ (.tmp 68) (.tmp 69) rfl (vcells zv).toArray (vcells zv).toArray (by rfl) (by rfl) guard_val true (same_v zv _)) ?_)
          | fail)
        refine (nil_card _).mono ?_
        rintro e' w3 ⟨rfl, b3⟩
        have T3 := T2.later b3
        clear T2 b3
        go_wp2_with (first
          | (refine wpList_exec (by rfl) (.bool true) (exec_eql 27 _ (.tmp 72) (.tmp 73) rfl (ccells 0 0 0 zeros).toArray (ccells 0 0 0 zeros).toArray (by rfl) (by rfl) guard_card true (same_c 0 0 0 zeros zeros_len _)) ?_)
          | fail)
        refine (nil_patch _).mono ?_
        rintro e' w4 ⟨rfl, b4⟩
        have T4 := T3.later b4
        clear T3 b4
        go_wp2_with (first
          | (refine wpList_exec (by rfl) (.bool true) (exec_eql 29 _ (.tmp 77) (.tmp 78) rfl (pcells 0 0 zeros).toArray (pcells 0 0 zeros).toArray (by rfl) (by rfl) guard_patch true (same_p 0 0 zeros zeros_len _)) ?_)
          | fail)
        refine (HAW.out _).mono ?_
        rintro e' w6 ⟨rfl, b6⟩
        have T6 := T4.later b6
        go_wp2_with fail
        go_ret
        exact ⟨rfl, T6.2.2.2⟩
  · have d3 : decide ((1000 : Int) < (n : Int)) = true := by simp; omega
    clear hs hn ht hkn
    go_enter Try.func4, Try.ntmps4
    go_wp2_with fail
    refine (HAW.out _).mono ?_
    rintro e' w3 ⟨rfl, b3⟩
    go_wp2_with fail
    go_ret
    exact ⟨rfl, b3⟩
end Go.Proofs.Yticdpfjajkfheaa

/- CardwirePuts: the walk. -/
namespace Go.Proofs.Yticdpfjajkfheaa
set_option linter.unusedVariables false
open Go Go.RowKit BitM OctM

theorem pbs_len (x : BitVec 32) (lab : Int) (f : List V3) : (pbs x lab f).length ≤ 400 := by
  unfold pbs
  split
  · simp
  · simp only [List.length_append]
    have h1 := held_len (x.toNat : Int)
    have h2 := held_len lab
    have h5 := fbs_len (lst x 8) f
    have h6 := lst_len x 8
    rw [flds_lst]
    split <;> first | omega | (simp only [List.length_nil]; omega)

set_option maxRecDepth 100000 in
set_option maxHeartbeats 6400000 in
theorem walk_wputs (id ver lab pl : Int) (x : BitVec 32) (C P : List V3) (A : Option Addr) (n c : Nat) (l : List UInt8) (w : World) (hC : C.length = 8) (hP : P.length = 8) (hlb : 0 ≤ lab) (hpl : 0 ≤ pl) (hn : l.length = n) (hs : Sees w w.heap.size A (bvs l)) :
    Calls Try.prog 3 #[.agg (ccells id ver lab C).toArray, .agg (pcells (x.toNat : Int) pl P).toArray, .slice A n c] w fun e w' => e = .returned (.bool true) ∧ Below w.heap.size w w' := by
  have HCL : Hid ((ccells id ver lab C).length = 27) := Lib.hid (ccells_len id ver lab hC)
  have HPL : Hid ((pcells (x.toNat : Int) pl P).length = 26) := Lib.hid (pcells_len (x.toNat : Int) pl hP)
  have HFC : Hid ((fcells C).length = 24) := Lib.hid (by rw [fcells_len, hC])
  have HFP : Hid ((fcells P).length = 24) := Lib.hid (by rw [fcells_len, hP])
  have HA := Lib.hid (fun wx : World => large_any C wx hC)
  have HB := Lib.hid (fun wx : World => large_any P wx hP)
  have B0 := Blk.new w (ccells id ver lab C) 27
  have B1 := Blk.new (w.alloc (.cells (ccells id ver lab C).toArray 27)) (pcells (x.toNat : Int) pl P) 29
  have hw0 := ((Below.refl w.heap.size w).alloc (Nat.le_refl _) (.cells (ccells id ver lab C).toArray 27)).alloc (by simp) (.cells (pcells (x.toNat : Int) pl P).toArray 29)
  replace B0 := B0.alloc (.cells (pcells (x.toNat : Int) pl P).toArray 29)
  have hs1 : (w.alloc (.cells (ccells id ver lab C).toArray 27)).heap.size = w.heap.size + 1 := by simp
  rw [hs1] at B1
  obtain ⟨v, hv⟩ : ∃ v, v = C[0]'(by omega) := ⟨_, rfl⟩
  have HLV0 : Hid (∀ wx : World, Blk wx w.heap.size (ccells id ver lab C) → wx.rangeAt w.heap.size 3 (vcells v)) := Lib.hid (fun wx h => range3 (v := v) (by rw [hv]; exact Blk.field (o := 3) h 0 rfl (by omega)))
  obtain ⟨ss, hss'⟩ : ∃ z, z = str l := ⟨_, rfl⟩
  have hss := hss'
  have zs : ss.size = n := by rw [hss, str_size, hn]
  obtain ⟨lv, hlv⟩ : ∃ z, z = l ++ vbs v := ⟨_, rfl⟩
  obtain ⟨kv, hkv⟩ : ∃ z, z = lv.length := ⟨_, rfl⟩
  obtain ⟨rv, hrv⟩ : ∃ z, z = str (vbs v) := ⟨_, rfl⟩
  obtain ⟨sv, hsv⟩ : ∃ z, z = str lv := ⟨_, rfl⟩
  have addv : ss ++ rv = sv := by rw [hss, hrv, str_append, hsv, hlv]
  have zv : rv.size ≤ 40 := by rw [hrv, str_size]; exact vbs_len v
  have KV : Hid (lv.length = kv) := Lib.hid hkv.symm
  have CV : Hid (∀ (wx : World) (A' : Option Addr) (c' : Nat) (h : Sees wx wx.heap.size A' (bvs lv)), (convert 30 9 (.slice A' kv c')).run Try.prog wx = .ok (.string sv) wx) := Lib.hid (fun wx A' c' h => str_conv wx wx.heap.size A' kv c' lv sv hkv.symm h hsv)
  obtain ⟨lc, hlc⟩ : ∃ z, z = l ++ cbs id ver lab C := ⟨_, rfl⟩
  obtain ⟨kc, hkc⟩ : ∃ z, z = lc.length := ⟨_, rfl⟩
  obtain ⟨rc, hrc⟩ : ∃ z, z = str (cbs id ver lab C) := ⟨_, rfl⟩
  obtain ⟨sc, hsc⟩ : ∃ z, z = str lc := ⟨_, rfl⟩
  have addc : ss ++ rc = sc := by rw [hss, hrc, str_append, hsc, hlc]
  have zc : rc.size ≤ 400 := by rw [hrc, str_size]; exact cbs_len id ver lab C
  have KC : Hid (lc.length = kc) := Lib.hid hkc.symm
  have CC : Hid (∀ (wx : World) (A' : Option Addr) (c' : Nat) (h : Sees wx wx.heap.size A' (bvs lc)), (convert 30 9 (.slice A' kc c')).run Try.prog wx = .ok (.string sc) wx) := Lib.hid (fun wx A' c' h => str_conv wx wx.heap.size A' kc c' lc sc hkc.symm h hsc)
  obtain ⟨lp, hlp⟩ : ∃ z, z = l ++ pbs x pl P := ⟨_, rfl⟩
  obtain ⟨kp, hkp⟩ : ∃ z, z = lp.length := ⟨_, rfl⟩
  obtain ⟨rp, hrp⟩ : ∃ z, z = str (pbs x pl P) := ⟨_, rfl⟩
  obtain ⟨sp, hsp⟩ : ∃ z, z = str lp := ⟨_, rfl⟩
  have addp : ss ++ rp = sp := by rw [hss, hrp, str_append, hsp, hlp]
  have zp : rp.size ≤ 400 := by rw [hrp, str_size]; exact pbs_len x pl P
  have KP : Hid (lp.length = kp) := Lib.hid hkp.symm
  have CP : Hid (∀ (wx : World) (A' : Option Addr) (c' : Nat) (h : Sees wx wx.heap.size A' (bvs lp)), (convert 30 9 (.slice A' kp c')).run Try.prog wx = .ok (.string sp) wx) := Lib.hid (fun wx A' c' h => str_conv wx wx.heap.size A' kp c' lp sp hkp.symm h hsp)
  have HV : Hid (n ≤ 500 → ∀ wx : World, Le w wx → Calls Try.prog 9 #[.slice A n c, .agg (vcells v).toArray] wx (GivesBytes wx lv)) := Lib.hid (fun h5 wx hb => by rw [hlv]; exact putval_any v.1 v.2.1 v.2.2 A n c l wx hn ((hs.below hb).more hb.size) (by omega))
  have HC : Hid (n ≤ 500 → ∀ wx : World, Le w wx → Calls Try.prog 11 #[.slice A n c, .agg (ccells id ver lab C).toArray] wx (GivesBytes wx lc)) := Lib.hid (fun h5 wx hb => by rw [hlc]; exact putcard_any id ver lab C A n c l wx hC hlb hn ((hs.below hb).more hb.size) (by omega))
  have HP : Hid (n ≤ 500 → ∀ wx : World, Le w wx → Calls Try.prog 13 #[.slice A n c, .agg (pcells (x.toNat : Int) pl P).toArray] wx (GivesBytes wx lp)) := Lib.hid (fun h5 wx hb => by rw [hlp]; exact putpatch_any x pl P A n c l wx hP hpl hn ((hs.below hb).more hb.size) (by omega))
  have RV : Hid (∀ wx : World, Calls Try.prog 10 #[.agg (vcells v).toArray] wx fun e w' => e = .returned (.string rv) ∧ Below wx.heap.size wx w') := Lib.hid (fun wx => by rw [hrv]; exact rputval_any v.1 v.2.1 v.2.2 wx)
  have RC : Hid (∀ wx : World, Calls Try.prog 12 #[.agg (ccells id ver lab C).toArray] wx fun e w' => e = .returned (.string rc) ∧ Below wx.heap.size wx w') := Lib.hid (fun wx => by rw [hrc]; exact rputcard_any id ver lab C wx hC hlb)
  have RP : Hid (∀ wx : World, Calls Try.prog 14 #[.agg (pcells (x.toNat : Int) pl P).toArray] wx fun e w' => e = .returned (.string rp) ∧ Below wx.heap.size wx w') := Lib.hid (fun wx => by rw [hrp]; exact rputpatch_any x pl P wx hP hpl)
  have HSS : Hid (∀ wx : World, Le w wx → (convert 30 9 (.slice A n c)).run Try.prog wx = .ok (.string ss) wx) := Lib.hid (fun wx hb => str_conv wx w.heap.size A n c l ss hn (hs.below hb) hss)
  have RF := B0.fieldsC
  have D1 := Blk.fieldsP B1
  obtain ⟨cc, hcc⟩ : ∃ z, z = ccells id ver lab C := ⟨_, rfl⟩
  obtain ⟨pc, hpc⟩ : ∃ z, z = pcells (x.toNat : Int) pl P := ⟨_, rfl⟩
  have HFP2 : Hid (∀ wx : World, Blk wx (w.heap.size + 1) pc → wx.rangeAt (w.heap.size + 1) 2 (fcells P)) := Lib.hid (fun wx h => by rw [hpc] at h; exact h.fieldsP)
  rw [← hcc] at HLV0 HC RC B0 B1 RF hw0 HCL
  rw [← hpc] at B0 B1 RF hw0 HPL HP RP
  rw [← hcc, ← hpc]
  clear hcc hpc D1 hs1 hrv hrc hrp hsv hsc hsp hlv hlc hlp hkv hkc hkp hss hss' hv hs hn hC hP
  generalize hW : (w.alloc (.cells cc.toArray 27)).alloc (.cells pc.toArray 29) = W at *
  have HW := Lib.hid hW
  have HBW := Lib.hid hw0
  clear hW hw0
  have hu8 := Try.underlying25
  have hu24 := Try.underlying24
  have hu27 := Try.underlying27
  have hu29 := Try.underlying29
  rw [← HW.out] at RF
  obtain ⟨t1, ht1⟩ : ∃ t, t = tooLong C := ⟨_, rfl⟩
  obtain ⟨t2, ht2⟩ : ∃ t, t = tooLong P := ⟨_, rfl⟩
  rw [← ht1] at HA
  rw [← ht2] at HB
  clear ht1 ht2
  cases t1
  all_goals
    go_enter Try.func3, Try.ntmps3
    go_wp2_with (first
      | (refine wpList_load_mid rfl 25 (.tmp 8) rfl w.heap.size 3 rfl (fcells C) _ RF hu8 rfl (by rw [HFC.out]; exact info_fields) ?_)
      | fail)
    rw [HW.out]
    refine (HA.out W).mono ?_
    rintro e w1 ⟨rfl, hb⟩
    have hb1 := HBW.out.trans (hb.mono HBW.out.size)
    have C0 := B0.later hb
    have C1 := B1.later hb
    clear RF B0 B1 HA hb HBW HW
  · have RF := HFP2.out _ C1
    cases t2
    all_goals
      go_wp2_with (first
        | (refine wpList_load_g (by rfl) 25 (.tmp 12) rfl (w.heap.size + 1) 2 rfl (fcells P) _ RF hu8 rfl (by rw [HFP.out]; exact info_fields) ?_)
        | fail)
      refine (HB.out _).mono ?_
      rintro e w2 ⟨rfl, hb⟩
      have hb2 := hb1.trans (hb.mono hb1.size)
      have D0 := C0.later hb
      have D1 := C1.later hb
      clear RF C0 C1 HB hb hb1
    · by_cases h5 : n ≤ 500
      · have d5 : decide ((500 : Int) < (n : Int)) = false := by simp; omega
        replace HV : Hid (∀ wx : World, Le w2 wx → Calls Try.prog 9 #[.slice A n c, .agg (vcells v).toArray] wx (GivesBytes wx lv)) := Lib.hid (fun wx hl => HV.out h5 wx (hb2.trans (hl.mono hb2.size)))
        replace HC : Hid (∀ wx : World, Le w2 wx → Calls Try.prog 11 #[.slice A n c, .agg cc.toArray] wx (GivesBytes wx lc)) := Lib.hid (fun wx hl => HC.out h5 wx (hb2.trans (hl.mono hb2.size)))
        replace HP : Hid (∀ wx : World, Le w2 wx → Calls Try.prog 13 #[.slice A n c, .agg pc.toArray] wx (GivesBytes wx lp)) := Lib.hid (fun wx hl => HP.out h5 wx (hb2.trans (hl.mono hb2.size)))
        have hr := HSS.out w2 hb2
        have HLV : Hid (∀ wx, Le w2 wx → wx.rangeAt w.heap.size 3 (vcells v)) := Lib.hid (fun wx hl => HLV0.out wx (D0.later hl))
        have HLC : Hid (∀ wx, Le w2 wx → wx.rangeAt w.heap.size 0 cc) := Lib.hid (fun wx hl => (D0.later hl).wholeC)
        have HLP : Hid (∀ wx, Le w2 wx → wx.rangeAt (w.heap.size + 1) 0 pc) := Lib.hid (fun wx hl => (D1.later hl).wholeC)
        clear D0 D1 HLV0 HFP2 HSS
        go_wp2_with (first
          | (refine wpList_exec (by rfl) (.string ss) (exec_conv (.tmp 22) 30 9 rfl _ rfl _ hr) ?_)
          | fail)
        refine wp_region_steady [(28, relSee kv lv), (40, relSee kc lc), (51, relSee kp lp)] 62 (by kernel_rfl) (by kernel_rfl) (by kernel_rfl) (by rfl) ?_
        iterate 3 (refine wpG_quiet (by rfl) (by rfl) (by rfl) (fun K hK => ?_); go_big_quiet_op; refine hK _ ?_; clear hK K)
        refine wpG_run (by rfl) (by rfl) (.agg (vcells v).toArray) (fun w1 hl => exec_load 24 (.tmp 26) rfl w.heap.size 3 rfl (vcells v) _ (HLV.out w1 hl.1) hu24 rfl info_val) ?_
        simp only [Act.put, List.setIfInBounds_toArray, List.set_cons_zero, List.set_cons_succ]
        refine wpG_calls (relSee kv lv) (by rfl) (by rfl) 9 #[.slice A n c, .agg (vcells v).toArray] (by intro _; simp [go_sem]) (fun w1 hl => (HV.out w1 hl.1).mono ?_) ?_
        · intro e w2 h
          exact gives_see KV.out h
        rintro _ ⟨_, _, _, ⟨A1, c1, rfl, _⟩⟩
        simp only [Act.put, List.setIfInBounds_toArray, List.set_cons_zero, List.set_cons_succ]
        refine wpG_run (by rfl) (by rfl) (.string sv) (fun w1 hl => ?_) ?_
        · obtain ⟨A2, c2, h2, s2⟩ := hl.2 28 _ (by simp [Op.operands]) rfl (by intro h; cases h)
          cases h2
          exact exec_conv (.tmp 28) 30 9 rfl _ rfl _ (CV.out w1 A1 c1 s2)
        simp only [Act.put, List.setIfInBounds_toArray, List.set_cons_zero, List.set_cons_succ]
        iterate 3 (refine wpG_quiet (by rfl) (by rfl) (by rfl) (fun K hK => ?_); go_big_quiet_op; refine hK _ ?_; clear hK K)
        refine wpG_run (by rfl) (by rfl) (.agg (vcells v).toArray) (fun w1 hl => exec_load 24 (.tmp 32) rfl w.heap.size 3 rfl (vcells v) _ (HLV.out w1 hl.1) hu24 rfl info_val) ?_
        simp only [Act.put, List.setIfInBounds_toArray, List.set_cons_zero, List.set_cons_succ]
        refine wpG_call (by rfl) (by rfl) 10 #[.agg (vcells v).toArray] (.string rv) (by intro _; simp [go_sem]) (by kernel_rfl) (fun w1 hl => RV.out w1) ?_
        simp only [Act.put, List.setIfInBounds_toArray, List.set_cons_zero, List.set_cons_succ]
        iterate 4 (refine wpG_quiet (by rfl) (by rfl) (by rfl) (fun K hK => ?_); go_big_quiet_op; refine hK _ ?_; clear hK K)
        refine wpG_run (by rfl) (by rfl) (.agg cc.toArray) (fun w1 hl => exec_load 27 (.tmp 3) rfl w.heap.size 0 rfl cc _ (HLC.out w1 hl.1) hu27 rfl (by rw [HCL.out]; exact info_card)) ?_
        simp only [Act.put, List.setIfInBounds_toArray, List.set_cons_zero, List.set_cons_succ]
        refine wpG_calls (relSee kc lc) (by rfl) (by rfl) 11 #[.slice A n c, .agg cc.toArray] (by intro _; simp [go_sem]) (fun w1 hl => (HC.out w1 hl.1).mono ?_) ?_
        · intro e w2 h
          exact gives_see KC.out h
        rintro _ ⟨_, _, _, ⟨A3, c3, rfl, _⟩⟩
        simp only [Act.put, List.setIfInBounds_toArray, List.set_cons_zero, List.set_cons_succ]
        refine wpG_run (by rfl) (by rfl) (.string sc) (fun w1 hl => ?_) ?_
        · obtain ⟨A2, c2, h2, s2⟩ := hl.2 40 _ (by simp [Op.operands]) rfl (by intro h; cases h)
          cases h2
          exact exec_conv (.tmp 40) 30 9 rfl _ rfl _ (CC.out w1 A3 c3 s2)
        simp only [Act.put, List.setIfInBounds_toArray, List.set_cons_zero, List.set_cons_succ]
        iterate 1 (refine wpG_quiet (by rfl) (by rfl) (by rfl) (fun K hK => ?_); go_big_quiet_op; refine hK _ ?_; clear hK K)
        refine wpG_run (by rfl) (by rfl) (.agg cc.toArray) (fun w1 hl => exec_load 27 (.tmp 3) rfl w.heap.size 0 rfl cc _ (HLC.out w1 hl.1) hu27 rfl (by rw [HCL.out]; exact info_card)) ?_
        simp only [Act.put, List.setIfInBounds_toArray, List.set_cons_zero, List.set_cons_succ]
        refine wpG_call (by rfl) (by rfl) 12 #[.agg cc.toArray] (.string rc) (by intro _; simp [go_sem]) (by kernel_rfl) (fun w1 hl => RC.out w1) ?_
        simp only [Act.put, List.setIfInBounds_toArray, List.set_cons_zero, List.set_cons_succ]
        iterate 5 (refine wpG_quiet (by rfl) (by rfl) (by rfl) (fun K hK => ?_); go_big_quiet_op; refine hK _ ?_; clear hK K)
        refine wpG_run (by rfl) (by rfl) (.agg pc.toArray) (fun w1 hl => exec_load 29 (.tmp 4) rfl (w.heap.size + 1) 0 rfl pc _ (HLP.out w1 hl.1) hu29 rfl (by rw [HPL.out]; exact info_patch)) ?_
        simp only [Act.put, List.setIfInBounds_toArray, List.set_cons_zero, List.set_cons_succ]
        refine wpG_calls (relSee kp lp) (by rfl) (by rfl) 13 #[.slice A n c, .agg pc.toArray] (by intro _; simp [go_sem]) (fun w1 hl => (HP.out w1 hl.1).mono ?_) ?_
        · intro e w2 h
          exact gives_see KP.out h
        rintro _ ⟨_, _, _, ⟨A5, c5, rfl, _⟩⟩
        simp only [Act.put, List.setIfInBounds_toArray, List.set_cons_zero, List.set_cons_succ]
        refine wpG_run (by rfl) (by rfl) (.string sp) (fun w1 hl => ?_) ?_
        · obtain ⟨A2, c2, h2, s2⟩ := hl.2 51 _ (by simp [Op.operands]) rfl (by intro h; cases h)
          cases h2
          exact exec_conv (.tmp 51) 30 9 rfl _ rfl _ (CP.out w1 A5 c5 s2)
        simp only [Act.put, List.setIfInBounds_toArray, List.set_cons_zero, List.set_cons_succ]
        iterate 1 (refine wpG_quiet (by rfl) (by rfl) (by rfl) (fun K hK => ?_); go_big_quiet_op; refine hK _ ?_; clear hK K)
        refine wpG_run (by rfl) (by rfl) (.agg pc.toArray) (fun w1 hl => exec_load 29 (.tmp 4) rfl (w.heap.size + 1) 0 rfl pc _ (HLP.out w1 hl.1) hu29 rfl (by rw [HPL.out]; exact info_patch)) ?_
        simp only [Act.put, List.setIfInBounds_toArray, List.set_cons_zero, List.set_cons_succ]
        refine wpG_call (by rfl) (by rfl) 14 #[.agg pc.toArray] (.string rp) (by intro _; simp [go_sem]) (by kernel_rfl) (fun w1 hl => RP.out w1) ?_
        simp only [Act.put, List.setIfInBounds_toArray, List.set_cons_zero, List.set_cons_succ]
        iterate 4 (refine wpG_quiet (by rfl) (by rfl) (by rfl) (fun K hK => ?_); go_big_quiet_op; refine hK _ ?_; clear hK K)
        refine wpG_call (by rfl) (by rfl) 8 #[] (.bool true) (by intro _; simp [go_sem]) (by kernel_rfl) (fun w1 hl => wire_awake w1) ?_
        simp only [Act.put, List.setIfInBounds_toArray, List.set_cons_zero, List.set_cons_succ]
        iterate 2 (refine wpG_quiet (by rfl) (by rfl) (by rfl) (fun K hK => ?_); go_big_quiet_op; refine hK _ ?_; clear hK K)
        refine wpG_nil fun w1 hl _ => ?_
        have hb3 := hb2.trans (hl.mono hb2.size)
        go_wp2_with fail
        go_ret
        exact ⟨rfl, hb3⟩
      · have d5 : decide ((500 : Int) < (n : Int)) = true := by simp; omega
        clear HV HC HP CV CC CP addv addc addp
        go_wp2_with fail
        refine (wire_awake _).mono ?_
        rintro e w9 ⟨rfl, b9⟩
        go_wp2_with fail
        go_ret
        exact ⟨rfl, hb2.trans (b9.mono hb2.size)⟩
    · clear HV HC HP CV CC CP addv addc addp
      go_wp2_with fail
      refine (wire_awake _).mono ?_
      rintro e w9 ⟨rfl, b9⟩
      go_wp2_with fail
      go_ret
      exact ⟨rfl, hb2.trans (b9.mono hb2.size)⟩
  · clear HV HC HP CV CC CP addv addc addp C0 C1
    go_wp2_with fail
    refine (wire_awake _).mono ?_
    rintro e w9 ⟨rfl, b9⟩
    go_wp2_with fail
    go_ret
    exact ⟨rfl, hb1.trans (b9.mono hb1.size)⟩
end Go.Proofs.Yticdpfjajkfheaa

/- CardwireBack: the walk. -/
namespace Go.Proofs.Yticdpfjajkfheaa
set_option linter.unusedVariables false
set_option linter.unusedSimpArgs false
open Go Go.RowKit OctM

theorem below_row {a b c : World} {m : Nat} (h : Below a.heap.size a b) (k : b.grownBy c (some m)) (hm : a.heap.size ≤ m) : Below a.heap.size a c :=
  ⟨k.os.trans h.os, k.tape.trans h.tape, k.output.trans h.output, Nat.le_trans h.size k.size, fun i hi => (k.block i (Nat.lt_of_lt_of_le hi h.size) (by simp; omega)).trans (h.block i hi)⟩
theorem Rd.to {w : World} {base g : Nat} {l : List UInt8} {a a' : Nat} {e e' : Int} (h : Rd w base g l a e) (ha : a = a') (he : e = e') : Rd w base g l a' e' := by subst ha he; exact h
set_option maxRecDepth 100000 in
set_option maxHeartbeats 6400000 in
theorem walk_cwback (id ver lab pl : Int) (x : BitVec 32) (C P : List V3) (A : Option Addr) (n c : Nat) (l : List UInt8) (w : World) (hC : C.length = 8) (hP : P.length = 8) (hlb : 0 ≤ lab) (hpl : 0 ≤ pl) (hn : l.length = n) (hs : Sees w w.heap.size A (bvs l)) :
    Calls Try.prog 5 #[.agg (ccells id ver lab C).toArray, .agg (pcells (x.toNat : Int) pl P).toArray, .slice A n c] w fun e w' => e = .returned (.bool true) ∧ Below w.heap.size w w' := by
  have HCL : Hid ((ccells id ver lab C).length = 27) := Lib.hid (ccells_len id ver lab hC)
  have HPL : Hid ((pcells (x.toNat : Int) pl P).length = 26) := Lib.hid (pcells_len (x.toNat : Int) pl hP)
  have HCK := Lib.hid (fun wx : World => rccheck_any id ver lab C wx hC)
  have HPK := Lib.hid (fun wx : World => rpcheck_any x pl P wx hP)
  have B0 := Blk.new w (ccells id ver lab C) 27
  have B1 := Blk.new (w.alloc (.cells (ccells id ver lab C).toArray 27)) (pcells (x.toNat : Int) pl P) 29
  have hw0 := ((Below.refl w.heap.size w).alloc (Nat.le_refl _) (.cells (ccells id ver lab C).toArray 27)).alloc (by simp) (.cells (pcells (x.toNat : Int) pl P).toArray 29)
  replace B0 := B0.alloc (.cells (pcells (x.toNat : Int) pl P).toArray 29)
  have hs1 : (w.alloc (.cells (ccells id ver lab C).toArray 27)).heap.size = w.heap.size + 1 := by simp
  rw [hs1] at B1
  obtain ⟨v, hv⟩ : ∃ v, v = C[1]'(by omega) := ⟨_, rfl⟩
  have HLV0 : Hid (∀ wx : World, Blk wx w.heap.size (ccells id ver lab C) → wx.rangeAt w.heap.size 6 (vcells v)) := Lib.hid (fun wx h => range3 (v := v) (by rw [hv]; exact Blk.field (o := 3) h 1 rfl (by omega)))
  obtain ⟨ck, hck⟩ : ∃ b, b = ccheck id ver lab C := ⟨_, rfl⟩
  rw [← hck] at HCK
  obtain ⟨pk, hpk⟩ : ∃ b, b = pchk x pl P := ⟨_, rfl⟩
  rw [← hpk] at HPK
  obtain ⟨pz, hpz⟩ : ∃ b, b = (pk != 0) := ⟨_, rfl⟩
  have kz : (pk != 0) = pz := hpz.symm
  -- what is read, where all may be
  have HREAD : Hid (ck = true → pz = false → valOut (vbs v ++ (cbs id ver lab C ++ (pbs x pl P ++ l))) 0 0 = (v, (vbs v).length, 0) ∧
      cardOut (vbs v ++ (cbs id ver lab C ++ (pbs x pl P ++ l))) (vbs v).length 0 = ((id, ver, lab, C), (vbs v).length + (cbs id ver lab C).length, 0) ∧
      patOut (vbs v ++ (cbs id ver lab C ++ (pbs x pl P ++ l))) ((vbs v).length + (cbs id ver lab C).length) 0 = (((x.toNat : Int), pl, P), (vbs v).length + (cbs id ver lab C).length + (pbs x pl P).length, 0)) := Lib.hid (by
    intro h1 h2
    rw [h1] at hck
    have h3 : pchk x pl P = 0 := by rw [← hpk]; rw [h2] at hpz; simpa using hpz.symm
    have hvk : vchk v = true := by
      have hh := hck.symm
      unfold ccheck at hh
      rw [Bool.and_eq_true] at hh
      have := vk_get hh.2 1 (by omega)
      rw [hv]
      simpa [List.getD, hC] using this
    refine ⟨?_, ?_, ?_⟩
    · have := valOut_put [] (cbs id ver lab C ++ (pbs x pl P ++ l)) v hvk
      simpa using this
    · exact cardOut_put (vbs v) (pbs x pl P ++ l) id ver lab C hC hlb hck.symm
    · have := patOut_put (vbs v ++ cbs id ver lab C) l x pl P hP hpl h3
      simpa only [List.append_assoc, List.length_append] using this)
  have L1 := vbs_len v
  have L2 := cbs_len id ver lab C
  have L3 := pbs_len x pl P
  obtain ⟨lv, hlv⟩ : ∃ z, z = vbs v := ⟨_, rfl⟩
  obtain ⟨lc, hlc⟩ : ∃ z, z = lv ++ cbs id ver lab C := ⟨_, rfl⟩
  obtain ⟨lp, hlp⟩ : ∃ z, z = lc ++ pbs x pl P := ⟨_, rfl⟩
  obtain ⟨kv, hkv⟩ : ∃ z, z = lv.length := ⟨_, rfl⟩
  obtain ⟨kc, hkc⟩ : ∃ z, z = lc.length := ⟨_, rfl⟩
  obtain ⟨kp, hkp⟩ : ∃ z, z = lp.length := ⟨_, rfl⟩
  have e1 : kv ≤ 40 := by rw [hkv, hlv]; exact L1
  have e12 : kv ≤ kc := by rw [hkc, hlc, List.length_append, ← hkv]; omega
  have e23 : kc ≤ kp := by rw [hkp, hlp, List.length_append, ← hkc]; omega
  have e2 : kc ≤ 440 := by rw [hkc, hlc, List.length_append, ← hkv]; omega
  have e3 : kp ≤ 840 := by rw [hkp, hlp, List.length_append, ← hkc]; omega
  have HREAD2 : Hid (ck = true → pz = false → valOut (lp ++ l) 0 0 = (v, kv, 0) ∧ cardOut (lp ++ l) kv 0 = ((id, ver, lab, C), kc, 0) ∧ patOut (lp ++ l) kc 0 = (((x.toNat : Int), pl, P), kp, 0)) := Lib.hid (by
    intro h1 h2
    have h3 := HREAD.out h1 h2
    have e4 : vbs v ++ (cbs id ver lab C ++ (pbs x pl P ++ l)) = lp ++ l := by rw [hlp, hlc, hlv]; simp only [List.append_assoc]
    have e5 : (vbs v).length = kv := by rw [hkv, hlv]
    have e6 : kv + (cbs id ver lab C).length = kc := by rw [hkc, hlc, List.length_append, hkv]
    have e7 : kc + (pbs x pl P).length = kp := by rw [hkp, hlp, List.length_append, hkc]
    rw [e4, e5, e6, e7] at h3
    exact h3)
  clear HREAD
  have HV : Hid (∀ wx : World, Calls Try.prog 9 #[.slice none 0 0, .agg (vcells v).toArray] wx (GivesBytes wx lv)) := Lib.hid (fun wx => by rw [hlv]; exact putval_any v.1 v.2.1 v.2.2 none 0 0 [] wx rfl Sees.nil_ (by omega))
  have HC : Hid (∀ (A' : Option Addr) (c' : Nat) (wx : World), Sees wx wx.heap.size A' (bvs lv) → Calls Try.prog 11 #[.slice A' kv c', .agg (ccells id ver lab C).toArray] wx (GivesBytes wx lc)) := Lib.hid (fun A' c' wx h => by rw [hlc]; exact putcard_any id ver lab C A' kv c' lv wx hC hlb hkv.symm h (by omega))
  have HP : Hid (∀ (A' : Option Addr) (c' : Nat) (wx : World), Sees wx wx.heap.size A' (bvs lc) → Calls Try.prog 13 #[.slice A' kc c', .agg (pcells (x.toNat : Int) pl P).toArray] wx (GivesBytes wx lp)) := Lib.hid (fun A' c' wx h => by rw [hlp]; exact putpatch_any x pl P A' kc c' lc wx hP hpl hkc.symm h (by omega))
  have HSC := Lib.hid (same_c id ver lab C hC)
  have HSP := Lib.hid (same_p (x.toNat : Int) pl P hP)
  have M1 := Lib.hid hkv
  have M2 := Lib.hid hkc
  have M3 := Lib.hid hkp
  have HNL := Lib.hid hn
  have RF := B0.wholeC
  have RP0 := B1.wholeC
  obtain ⟨cc, hcc⟩ : ∃ z, z = ccells id ver lab C := ⟨_, rfl⟩
  obtain ⟨pc, hpc⟩ : ∃ z, z = pcells (x.toNat : Int) pl P := ⟨_, rfl⟩
  have Hcc : Hid (cc4 (id, ver, lab, C) = cc) := Lib.hid hcc.symm
  have Hpc : Hid (pc3 ((x.toNat : Int), pl, P) = pc) := Lib.hid hpc.symm
  have O10 : cc.toArray.all (·.oneCell') = true := all_oneCell_toArray (by rw [hcc]; exact ccells_one _ _ _ _)
  have O11 : pc.toArray.all (·.oneCell') = true := all_oneCell_toArray (by rw [hpc]; exact pcells_one _ _ _)
  rw [← hcc] at HLV0 HC B0 B1 RF RP0 hw0 HCL HCK HSC
  rw [← hpc] at B0 B1 RF RP0 hw0 HPL HP HPK HSP
  rw [← hcc, ← hpc]
  clear hcc hpc hs1 hlv hlc hlp hkv hkc hkp hv hn hC hP L1 L2 L3 hpz hck hpk
  have hu24 := Try.underlying24
  have hu27 := Try.underlying27
  have hu29 := Try.underlying29
  generalize hW : (w.alloc (.cells cc.toArray 27)).alloc (.cells pc.toArray 29) = W at *
  have HW := Lib.hid hW
  clear hW
  have RC := RF
  rw [← HW.out] at RC
  cases ck
  · -- the card may not be
    go_enter Try.func5, Try.ntmps5
    go_wp2_with (first
      | (refine wpList_load_g (by rfl) 27 (.tmp 3) rfl w.heap.size 0 rfl cc _ RC hu27 rfl (by rw [HCL.out]; exact info_card) ?_)
      | fail)
    rw [HW.out]
    refine (HCK.out _).mono ?_
    rintro e w1 ⟨rfl, hb⟩
    have hb1 := hw0.trans (hb.mono hw0.size)
    clear RC RF RP0 B0 B1
    go_wp2_with fail
    refine (wire_awake _).mono ?_
    rintro e w3 ⟨rfl, b3⟩
    go_wp2_with fail
    go_ret
    exact ⟨rfl, hb1.trans (b3.mono hb1.size)⟩
  · go_enter Try.func5, Try.ntmps5
    go_wp2_with (first
      | (refine wpList_load_g (by rfl) 27 (.tmp 3) rfl w.heap.size 0 rfl cc _ RC hu27 rfl (by rw [HCL.out]; exact info_card) ?_)
      | fail)
    rw [HW.out]
    refine (HCK.out _).mono ?_
    rintro e w1 ⟨rfl, hb⟩
    have hb0 := hw0.trans (hb.mono hw0.size)
    replace B0 := B0.later hb
    replace B1 := B1.later hb
    have RP := B1.wholeC
    clear RC RF RP0 HW hw0 hb
    go_wp2_with (first
      | (refine wpList_load_g (by rfl) 29 (.tmp 4) rfl (w.heap.size + 1) 0 rfl pc _ RP hu29 rfl (by rw [HPL.out]; exact info_patch) ?_)
      | fail)
    refine (HPK.out _).mono ?_
    rintro e w2 ⟨rfl, hb⟩
    have hb1 := hb0.trans (hb.mono hb0.size)
    replace B0 := B0.later hb
    replace B1 := B1.later hb
    clear RP hb hb0
    cases pz
    · by_cases h5 : n ≤ 500
      · have d5 : decide ((500 : Int) < (n : Int)) = false := by simp; omega
        obtain ⟨F1, F2, F3⟩ := HREAD2.out (by trivial) (by trivial)
        have HF1 := Lib.hid F1
        have HF2 := Lib.hid F2
        have HF3 := Lib.hid F3
        clear F1 F2 F3 HREAD2
        have HLV : Hid (∀ wx, Le w2 wx → wx.rangeAt w.heap.size 6 (vcells v)) := Lib.hid (fun wx hl => HLV0.out wx (B0.later hl))
        have HLC : Hid (∀ wx, Le w2 wx → wx.rangeAt w.heap.size 0 cc) := Lib.hid (fun wx hl => (B0.later hl).wholeC)
        have HLP : Hid (∀ wx, Le w2 wx → wx.rangeAt (w.heap.size + 1) 0 pc) := Lib.hid (fun wx hl => (B1.later hl).wholeC)
        have hs2 : Sees w2 w2.heap.size A (bvs l) := (hs.below hb1).more hb1.size
        clear hs HCK HPK
        go_wp2_with fail
        refine wp_region_tail [(29, relSee kv lv), (31, relSee kc lc), (33, relSee kp lp)] 76 8 (by kernel_rfl) (by kernel_rfl) (by kernel_rfl) (by rfl) ?_
        have HLW : Hid (∀ wx : World, Blk wx w.heap.size cc → wx.rangeAt w.heap.size 6 (vcells v)) := HLV0
        simp only [List.take_succ_cons, List.take_zero, List.drop_succ_cons, List.drop_zero]
        iterate 2 (refine wpG_quiet (by rfl) (by rfl) (by rfl) (fun K hK => ?_); go_big_quiet_op; refine hK _ ?_; clear hK K)
        refine wpG_run (by rfl) (by rfl) (.agg (vcells v).toArray) (fun w1 hl => exec_load 24 (.tmp 27) rfl w.heap.size 6 rfl (vcells v) _ (HLV.out w1 hl.1) hu24 rfl info_val) ?_
        simp only [Act.put, List.setIfInBounds_toArray, List.set_cons_zero, List.set_cons_succ]
        refine wpG_calls (relSee kv lv) (by rfl) (by rfl) 9 #[.slice none 0 0, .agg (vcells v).toArray] (by intro _; simp [go_sem]) (fun w1 hl => (HV.out w1).mono fun e w' h => gives_see M1.out.symm h) ?_
        rintro _ ⟨_, _, _, ⟨A1, c1, rfl, _⟩⟩
        simp only [Act.put, List.setIfInBounds_toArray, List.set_cons_zero, List.set_cons_succ]
        refine wpG_run (by rfl) (by rfl) (.agg cc.toArray) (fun w1 hl => exec_load 27 (.tmp 3) rfl w.heap.size 0 rfl cc _ (HLC.out w1 hl.1) hu27 rfl (by rw [HCL.out]; exact info_card)) ?_
        simp only [Act.put, List.setIfInBounds_toArray, List.set_cons_zero, List.set_cons_succ]
        refine wpG_calls (relSee kc lc) (by rfl) (by rfl) 11 #[.slice A1 kv c1, .agg cc.toArray] (by intro _; simp [go_sem]) (fun w1 hl => ?_) ?_
        · obtain ⟨A2, c2, h2, s2⟩ := hl.2 29 _ (by simp [Op.operands, Call.operands]) rfl (by intro h; cases h)
          cases h2
          exact (HC.out _ _ _ s2).mono fun e w' h => gives_see M2.out.symm h
        rintro _ ⟨_, _, _, ⟨A2, c2, rfl, _⟩⟩
        simp only [Act.put, List.setIfInBounds_toArray, List.set_cons_zero, List.set_cons_succ]
        refine wpG_run (by rfl) (by rfl) (.agg pc.toArray) (fun w1 hl => exec_load 29 (.tmp 4) rfl (w.heap.size + 1) 0 rfl pc _ (HLP.out w1 hl.1) hu29 rfl (by rw [HPL.out]; exact info_patch)) ?_
        simp only [Act.put, List.setIfInBounds_toArray, List.set_cons_zero, List.set_cons_succ]
        refine wpG_calls (relSee kp lp) (by rfl) (by rfl) 13 #[.slice A2 kc c2, .agg pc.toArray] (by intro _; simp [go_sem]) (fun w1 hl => ?_) ?_
        · obtain ⟨A3, c3, h3, s3⟩ := hl.2 31 _ (by simp [Op.operands, Call.operands]) rfl (by intro h; cases h)
          cases h3
          exact (HP.out _ _ _ s3).mono fun e w' h => gives_see M3.out.symm h
        rintro _ ⟨_, _, _, ⟨A3, c3, rfl, _⟩⟩
        simp only [Act.put, List.setIfInBounds_toArray, List.set_cons_zero, List.set_cons_succ]
        refine wpG_nil fun w3 hl hS => ?_
        obtain ⟨_, A3', c3', eq3, s3⟩ := hS
        cases eq3
        have hs3 : Sees w3 w3.heap.size A (bvs l) := (hs2.below hl).more hl.size
        replace B0 := B0.later hl
        replace B1 := B1.later hl
        have b3 := hb1.trans (hl.mono hb1.size)
        obtain ⟨i0, hi, hz0, hz1, hz2⟩ := oct_parts
        have HNP : Hid (lp.length = kp) := Lib.hid M3.out.symm
        clear hl hs2 hb1 HLV HLC HLP
        go_wp2_with (first
          | (at_builtin
             refine wpList_app _ rfl (.tmp 34) (.tmp 35) _ rfl w3.heap.size 5 i0 _ 1 Try.underlying30 hi hz0 hz1 hz2 rfl (.slice (some ⟨w3.heap.size, 0, none⟩) 0 0) [] 0 rfl rfl (own_lit w3 w3.heap.size 5 #[] (Nat.le_refl _) (by simp [maxLen])) w3.heap.size A3 c3 (bvs lp) kp rfl (by rw [bvs_length, HNP.out]) (s3.alloc (Nat.le_refl _) _) (bvs_one _) (by simp [maxLen]; omega) (by omega) (by simp) ?_
             intro A4 c4 w4 o4 b4' hg4 hat4; simp only [Nat.zero_add, List.nil_append] at o4 hat4
             have b4 : Below w3.heap.size w3 w4 := ((Below.refl _ _).alloc (Nat.le_refl _) _).trans b4'
             have hz4 := b4'.size
             simp only [World.alloc] at hz4)
          | (at_builtin
             refine wpList_app _ rfl (.tmp 36) (.tmp 37) _ rfl w3.heap.size 5 i0 _ 1 Try.underlying30 hi hz0 hz1 hz2 rfl (.slice A4 kp c4) (bvs lp) kp rfl (by rw [bvs_length, HNP.out]) o4 w3.heap.size A c (bvs l) n rfl (by rw [bvs_length, HNL.out]) ((hs3.alloc (Nat.le_refl _) _).below b4') (bvs_one _) (by simp [maxLen]; omega) (by omega) (((Below.refl _ _).alloc (Nat.le_refl _) _).trans b4').size ?_
             intro A5 c5 w5 o5 b5' hg5 hat5
             have b5 : Below w3.heap.size w3 w5 := b4.trans b5')
          | fail)
        rw [← bvs_append] at o5
        have hb35 := b3.trans (b5.mono b3.size)
        replace B0 := B0.later b5
        replace B1 := B1.later b5
        have hB15 := B1.lt
        have HLL : Hid ((lp ++ l).length = kp + n) := Lib.hid (by rw [List.length_append, HNP.out, HNL.out])
        obtain ⟨lb, hlb2⟩ : ∃ lb, lb = lp ++ l := ⟨_, rfl⟩
        rw [← hlb2] at o5 HLL HF1 HF2 HF3
        clear hlb2 s3 hs3 hi hz0 hz1 hz2 o4 b4 b4' b5' hg4 hat4 hg5 hat5 hz4 b3
        refine (rd_new A5 (kp + n) c5 lb w5 HLL.out o5.sees (by omega)).mono ?_
        rintro e w6 ⟨g, rfl, r6, b6⟩
        replace B0 := B0.later b6
        replace B1 := B1.later b6
        have hb6 := hb35.trans (b6.mono hb35.size)
        have hgb := r6.block
        have hz5 := hb35.size
        have hz6 := b6.size
        have hB1 := B1.lt
        have H1 := Lib.hid (fun wx (hx : Rd wx w5.heap.size g lb 0 0) => rd_value w5.heap.size g lb 0 0 wx hx (Nat.zero_le _) (by rw [HLL.out]; omega))
        rw [HF1.out] at H1
        have H2 := Lib.hid (fun wx (hx : Rd wx w5.heap.size g lb kv 0) => rd_card w5.heap.size g lb kv 0 wx hx (by rw [HLL.out]; omega) (by rw [HLL.out]; omega))
        rw [HF2.out] at H2
        have H3 := Lib.hid (fun wx (hx : Rd wx w5.heap.size g lb kc 0) => rd_patch w5.heap.size g lb kc 0 wx hx (by rw [HLL.out]; omega) (by rw [HLL.out]; omega))
        rw [HF3.out] at H3
        simp only at H1 H2 H3
        rw [Hcc.out] at H2
        rw [Hpc.out] at H3
        have ne0 : (some g : Option Nat) ≠ some w.heap.size := by simp; omega
        have ne1 : (some g : Option Nat) ≠ some (w.heap.size + 1) := by simp; omega
        clear HF1 HF2 HF3 o5 b5 hb35 HV HC HP HLV0
        go_wp2_with fail
        refine (H1.out _ r6).mono ?_
        rintro e w7 ⟨rfl, r7, g7⟩
        replace B0 := B0.kept g7 ne0
        replace B1 := B1.kept g7 ne1
        go_wp2_with fail
        refine (H2.out _ r7).mono ?_
        rintro e w8 ⟨rfl, r8, g8⟩
        replace B0 := B0.kept g8 ne0
        replace B1 := B1.kept g8 ne1
        go_wp2_with fail
        refine (H3.out _ r8).mono ?_
        rintro e w9 ⟨rfl, r9, g9⟩
        replace B0 := B0.kept g9 ne0
        replace B1 := B1.kept g9 ne1
        have hb9 : Below w.heap.size w w9 := below_row hb6 ((g7.trans g8).trans g9) (by omega)
        have hzz := hb9.size
        obtain ⟨zc, hzc⟩ : ∃ z, z = ccells 0 0 0 zeros := ⟨_, rfl⟩
        obtain ⟨zp, hzp⟩ : ∃ z, z = pcells 0 0 zeros := ⟨_, rfl⟩
        have HZC := Lib.hid zc27
        have HZP := Lib.hid zp26
        have LZC := Lib.hid (show zc.length = 27 by rw [hzc]; exact ccells_len 0 0 0 zeros_len)
        have LZP := Lib.hid (show zp.length = 26 by rw [hzp]; exact pcells_len 0 0 zeros_len)
        rw [← hzc] at HZC
        rw [← hzp] at HZP
        clear hzc hzp
        have d0 := Blk.new w9 (vcells zv) 24
        have d1 := Blk.new (w9.alloc (.cells (vcells zv).toArray 24)) zc 27
        have d2 := Blk.new ((w9.alloc (.cells (vcells zv).toArray 24)).alloc (.cells zc.toArray 27)) zp 29
        have s1 : (w9.alloc (.cells (vcells zv).toArray 24)).heap.size = w9.heap.size + 1 := by simp
        have s2 : ((w9.alloc (.cells (vcells zv).toArray 24)).alloc (.cells zc.toArray 27)).heap.size = w9.heap.size + 2 := by simp
        rw [s1] at d1
        rw [s2] at d2
        replace d0 := (d0.alloc (.cells zc.toArray 27)).alloc (.cells zp.toArray 29)
        replace d1 := d1.alloc (.cells zp.toArray 29)
        have LE : Le w9 (((w9.alloc (.cells (vcells zv).toArray 24)).alloc (.cells zc.toArray 27)).alloc (.cells zp.toArray 29)) := (((Below.refl w9.heap.size w9).alloc (Nat.le_refl _) _).alloc (by simp) _).alloc (by simp; omega) _
        replace B0 := B0.later LE
        replace B1 := B1.later LE
        have rA := r9.later LE
        have hbA := hb9.trans (LE.mono hzz)
        have hB0 : w.heap.size < w9.heap.size := by have := g7.size; have := g8.size; have := g9.size; omega
        have hB1' : w.heap.size + 1 < w9.heap.size := by have := g7.size; have := g8.size; have := g9.size; omega
        have hgg : g < w9.heap.size := r9.block.2
        have T0 := d0.there 0 3 (Nat.le_refl _)
        have O0 : (vcells v).toArray.all (·.oneCell') = true := vcells_all _
        obtain ⟨H, hH⟩ : ∃ H, H = w9.heap.size := ⟨_, rfl⟩
        rw [← hH] at d0 d1 d2 T0 hB0 hB1' hgg hzz
        have HH := Lib.hid hH
        generalize hWA : ((w9.alloc (.cells (vcells zv).toArray 24)).alloc (.cells zc.toArray 27)).alloc (.cells zp.toArray 29) = WA at *
        have HWA := Lib.hid hWA
        clear hH hWA LE s1 s2 hb9 r9 r8 r7 r6 g7 g8 g9 hb6 b6
        go_wp2_with (first
          | (rw [← HZC.out, ← HZP.out]
             rw [show ((w9.alloc (.cells #[Value.int .i64 0, .int .i64 0, .string { data := #[] }] 24)).alloc (.cells zc.toArray 27)).alloc (.cells zp.toArray 29) = WA from HWA.out, ← HH.out]
             refine wpList_store_mid rfl 24 (.tmp 9) (.tmp 41) rfl H 0 (vcells v).toArray rfl rfl T0 info_val O0 ?_
             simp only [Act.put]
             have e0 := d0.wholeT (ds := vcells v) rfl
             have e1 := Blk.setsOther (b := H) (g := H + 1) (by omega) (vcells v) 0 d1
             have e2 := Blk.setsOther (b := H) (g := H + 2) (by omega) (vcells v) 0 d2
             have eB0 := Blk.setsOther (b := H) (g := w.heap.size) (by omega) (vcells v) 0 B0
             have eB1 := Blk.setsOther (b := H) (g := w.heap.size + 1) (by omega) (vcells v) 0 B1
             have er := rA.other (grown_sets4 H (vcells v) 0 WA) (by omega)
             have eb := below_sets hzz (vcells v) 0 hbA
             generalize hwa : World.setCells WA H 0 (vcells v).toArray.toList = wa
             replace e0 : Blk wa H (vcells v) := hwa ▸ e0
             replace e1 : Blk wa (H + 1) zc := hwa ▸ e1
             replace e2 : Blk wa (H + 2) zp := hwa ▸ e2
             replace eB0 : Blk wa w.heap.size cc := hwa ▸ eB0
             replace eB1 : Blk wa (w.heap.size + 1) pc := hwa ▸ eB1
             replace er : Rd wa w5.heap.size g lb kp 0 := hwa ▸ er
             replace eb : Below w.heap.size w wa := hwa ▸ eb
             clear hwa d0 d1 d2 B0 B1 rA hbA T0 O0
             have T1 := e1.there 0 27 (by rw [LZC.out]; omega))
          | (refine wpList_store_mid rfl 27 (.tmp 10) (.tmp 43) rfl (H + 1) 0 cc.toArray rfl rfl (by simpa [HCL.out] using T1) (by simpa [HCL.out] using info_card) O10 ?_
             simp only [Act.put]
             have f0 := Blk.setsOther (b := H + 1) (g := H) (by omega) cc 0 e0
             have f1 := e1.wholeT (ds := cc) (by rw [HCL.out, LZC.out])
             have f2 := Blk.setsOther (b := H + 1) (g := H + 2) (by omega) cc 0 e2
             have fB0 := Blk.setsOther (b := H + 1) (g := w.heap.size) (by omega) cc 0 eB0
             have fB1 := Blk.setsOther (b := H + 1) (g := w.heap.size + 1) (by omega) cc 0 eB1
             have fr := er.other (grown_sets4 (H + 1) cc 0 wa) (by omega)
             have fb := below_sets (B := w.heap.size) (b := H + 1) (by omega) cc 0 eb
             generalize hwb : World.setCells wa (H + 1) 0 cc.toArray.toList = wb
             replace f0 : Blk wb H (vcells v) := hwb ▸ f0
             replace f1 : Blk wb (H + 1) cc := hwb ▸ f1
             replace f2 : Blk wb (H + 2) zp := hwb ▸ f2
             replace fB0 : Blk wb w.heap.size cc := hwb ▸ fB0
             replace fB1 : Blk wb (w.heap.size + 1) pc := hwb ▸ fB1
             replace fr : Rd wb w5.heap.size g lb kp 0 := hwb ▸ fr
             replace fb : Below w.heap.size w wb := hwb ▸ fb
             clear hwb e0 e1 e2 eB0 eB1 er eb T1
             have T2 := f2.there 0 26 (by rw [LZP.out]; omega))
          | (refine wpList_store_mid rfl 29 (.tmp 11) (.tmp 45) rfl (H + 2) 0 pc.toArray rfl rfl (by simpa [HPL.out] using T2) (by simpa [HPL.out] using info_patch) O11 ?_
             simp only [Act.put]
             have i0 := Blk.setsOther (b := H + 2) (g := H) (by omega) pc 0 f0
             have i1 := Blk.setsOther (b := H + 2) (g := H + 1) (by omega) pc 0 f1
             have i2 := f2.wholeT (ds := pc) (by rw [HPL.out, LZP.out])
             have iB0 := Blk.setsOther (b := H + 2) (g := w.heap.size) (by omega) pc 0 fB0
             have iB1 := Blk.setsOther (b := H + 2) (g := w.heap.size + 1) (by omega) pc 0 fB1
             have ir := fr.other (grown_sets4 (H + 2) pc 0 wb) (by omega)
             have ib := below_sets (B := w.heap.size) (b := H + 2) (by omega) pc 0 fb
             generalize hwc : World.setCells wb (H + 2) 0 pc.toArray.toList = wc
             replace i0 : Blk wc H (vcells v) := hwc ▸ i0
             replace i1 : Blk wc (H + 1) cc := hwc ▸ i1
             replace i2 : Blk wc (H + 2) pc := hwc ▸ i2
             replace iB0 : Blk wc w.heap.size cc := hwc ▸ iB0
             replace iB1 : Blk wc (w.heap.size + 1) pc := hwc ▸ iB1
             replace ir : Rd wc w5.heap.size g lb kp 0 := hwc ▸ ir
             replace ib : Below w.heap.size w wc := hwc ▸ ib
             clear hwc f0 f1 f2 fB0 fB1 fr fb T2
             have RA := i0.range 0 (vcells v) (by rw [List.drop_zero, List.take_length])
             have RB := HLW.out wc iB0
             have RCC := i1.wholeC
             have RC0 := iB0.wholeC
             have RPP := i2.wholeC
             have RP0 := iB1.wholeC)
          | (refine wpList_load_g (by rfl) 24 (.tmp 9) rfl H 0 rfl (vcells v) _ RA hu24 rfl info_val ?_)
          | (refine wpList_load_g (by rfl) 24 (.tmp 48) rfl w.heap.size 6 rfl (vcells v) _ RB hu24 rfl info_val ?_)
          | (refine wpList_exec (by rfl) (.bool true) (exec_eql 24 _ (.tmp 46) (.tmp 49) rfl _ _ rfl rfl guard_val true (same_v v _)) ?_)
          | (refine wpList_load_g (by rfl) 27 (.tmp 10) rfl (H + 1) 0 rfl cc _ RCC hu27 rfl (by rw [HCL.out]; exact info_card) ?_)
          | (refine wpList_load_g (by rfl) 27 (.tmp 3) rfl w.heap.size 0 rfl cc _ RC0 hu27 rfl (by rw [HCL.out]; exact info_card) ?_)
          | (refine wpList_exec (by rfl) (.bool true) (exec_eql 27 _ (.tmp 52) (.tmp 53) rfl _ _ rfl rfl guard_card true (HSC.out _)) ?_)
          | (refine wpList_load_g (by rfl) 29 (.tmp 11) rfl (H + 2) 0 rfl pc _ RPP hu29 rfl (by rw [HPL.out]; exact info_patch) ?_)
          | (refine wpList_load_g (by rfl) 29 (.tmp 4) rfl (w.heap.size + 1) 0 rfl pc _ RP0 hu29 rfl (by rw [HPL.out]; exact info_patch) ?_)
          | (refine wpList_exec (by rfl) (.bool true) (exec_eql 29 _ (.tmp 57) (.tmp 58) rfl _ _ rfl rfl guard_patch true (HSP.out _)) ?_)
          | fail)
        refine (rd_err w5.heap.size g lb kp 0 wc ir).mono ?_
        rintro e wd ⟨rfl, rfl⟩
        go_wp2_with fail
        refine (rd_left w5.heap.size g lb kp 0 wc ir (by rw [HLL.out]; omega) (by rw [HLL.out]; omega)).mono ?_
        rintro e wd ⟨rfl, nk, rfl⟩
        rw [show ((lb.length : Nat) : Int) - (kp : Int) = (n : Int) from by rw [HLL.out]; omega]
        go_wp2_with fail
        refine (wire_awake _).mono ?_
        rintro e we ⟨rfl, be⟩
        go_wp2_with fail
        go_ret
        exact ⟨rfl, (below_drewN ib nk).trans (be.mono ib.size)⟩
      · have d5 : decide ((500 : Int) < (n : Int)) = true := by simp; omega
        go_wp2_with fail
        refine (wire_awake _).mono ?_
        rintro e w3 ⟨rfl, b3⟩
        go_wp2_with fail
        go_ret
        exact ⟨rfl, hb1.trans (b3.mono hb1.size)⟩
    · go_wp2_with fail
      refine (wire_awake _).mono ?_
      rintro e w3 ⟨rfl, b3⟩
      go_wp2_with fail
      go_ret
      exact ⟨rfl, hb1.trans (b3.mono hb1.size)⟩
end Go.Proofs.Yticdpfjajkfheaa
