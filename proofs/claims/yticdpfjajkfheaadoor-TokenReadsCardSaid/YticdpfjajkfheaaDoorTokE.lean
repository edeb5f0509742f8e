/- TokenReads: the walk. -/
import Derived.Test.YticdpfjajkfheaaDoorTokD
import Derived.Test.YticdpfjajkfheaaDoorHead
namespace Go.Proofs.YticdpfjajkfheaaDoor
set_option linter.unusedVariables false
set_option linter.unusedSimpArgs false
open Go Go.RowKit OctM

theorem str_conv (w : World) (B : Nat) (A : Option Addr) (n c : Nat) (l : List UInt8) (s : ByteArray) (hn : l.length = n) (hs : Sees w B A (bvs l)) (h : s = str l) : (convert 48 9 (.slice A n c)).run Tryd.prog w = .ok (.string s) w := by
  subst h
  exact run_str (P := Tryd.prog) w B 48 5 9 Tryd.underlying48 Tryd.underlying5 Tryd.underlying9 A n c l hn hs
theorem fieldsT : Tryd.prog.underlying 42 = some (.struct (Tryd.prog.fieldsOf 42)) := by kernel_rfl
theorem guard_tok : Tryd.prog.eqGuardType Tryd.prog.depth 42 = false := by kernel_rfl
theorem eq_tok (n : Nat) (a b c d : Int) (w : World) : (Op.equalIn (n + 2) 42 (.agg (tks a b c d).toArray) (.agg (tks a b c d).toArray)).run Tryd.prog w = .ok true w := by
  rw [run_equalIn_agg w (n + 1) 42 _ _ fieldsT (by kernel_rfl)]
  have e : (Tryd.prog.fieldsOf 42).toList = [⟨"Dev", 3, 0, false, "", "", 0⟩, ⟨"Epoch", 3, 1, false, "", "", 8⟩, ⟨"Seq", 3, 2, false, "", "", 16⟩, ⟨"Cursor", 3, 3, false, "", "", 24⟩] := by kernel_rfl
  rw [e]
  simp only [tks, Op.eqFields]
  simp [go_sem, part, isAgg]

set_option maxRecDepth 100000 in
set_option maxHeartbeats 6400000 in
theorem walk_tokreads (A : Option Addr) (n c : Nat) (l : List UInt8) (w : World) (hn : l.length = n) (hs : Sees w w.heap.size A (bvs l)) (ht : Tab w) :
    Calls Tryd.prog 6 #[.slice A n c] w fun e w' => e = .returned (.bool true) ∧ Below w.heap.size w w' := by
  have HAW := Lib.hid (fun (wx : World) (hb : Below w.heap.size w wx) => tok_awake wx (ht.later hb))
  clear ht
  by_cases h5 : n ≤ 500
  · have d3 : decide ((500 : Int) < (n : Int)) = false := by simp; omega
    have HN := Lib.hid (rd_new A n c l w hn hs (by omega))
    have HNL := Lib.hid hn
    go_enter Tryd.func6, Tryd.ntmps6
    go_wp2_with fail
    refine HN.out.mono ?_
    rintro e w1 ⟨gr, rfl, r1, b1⟩
    obtain ⟨sl, hsl⟩ : ∃ sl, sl = str l := ⟨_, rfl⟩
    have hc1 := str_conv w1 w1.heap.size A n c l sl HNL.out ((hs.below b1).more b1.size) hsl
    have hgr := r1.block
    have HSL := Lib.hid hsl
    clear hn hsl
    go_wp2_with fail
    have T0 : Same2 w (w1.alloc (.cells #[.string sl, .int .i64 0] 56)) gr w1.heap.size l 0 0 := by
      refine ⟨⟨r1.later ((Below.refl _ _).alloc (Nat.le_refl _) _), ?_, hgr.2, b1.alloc b1.size _⟩, Nat.zero_le _, by rw [HNL.out]; omega⟩
      have h := own_lit w1 w.heap.size 56 #[.string sl, .int .i64 0] b1.size (by simp [maxLen])
      rw [HSL.out] at h ⊢
      exact h
    generalize hgm : w1.heap.size = gm at T0 ⊢
    clear hc1 r1 b1 hgr hgm HSL HN
    go_loopw [5] (fun i wr => ∃ (k a : Nat) (e : Int), k ≤ 4 ∧ i = .int .i64 k ∧ Same2 w wr gr gm l a e) (fun i _ => 4 - (intOf i).toNat)
    case atStart => exact ⟨0, 0, 0, by omega, rfl, T0⟩
    case round =>
      obtain ⟨k, a, e, hk, rfl, T, ha, hm⟩ := hrel
      have HT := Lib.hid T
      clear T0
      by_cases hlt : k < 4
      · have q2 : (k : Int) < 4 := by omega
        obtain ⟨⟨⟨d0, p0, s0, c0⟩, a2, e2⟩, hq⟩ : ∃ q, q = tokOut l a e := ⟨_, rfl⟩
        have ha2 := tokOut_at l a e ha
        have H1 := Lib.hid (fun wx (T : Two w wx gr gm l a e (l.drop a) e) => (rd_tok _ gr l a e wx T.1 ha hm).mono fun x w' h => (show x = .returned (.agg (tk4 (tokOut l a e).1).toArray) ∧ Two w w' gr gm l (tokOut l a e).2.1 (tokOut l a e).2.2 (l.drop a) e from ⟨h.1, T.first h.2.1 h.2.2⟩))
        have H2 := Lib.hid (fun wx (T : Two w wx gr gm l (tokOut l a e).2.1 (tokOut l a e).2.2 (l.drop a) e) => (rr_tok _ gm l a e wx T.2.1 hm).mono fun x w' h => (show x = .returned (.agg (tk4 (tokOut l a e).1).toArray) ∧ Two w w' gr gm l (tokOut l a e).2.1 (tokOut l a e).2.2 (l.drop (tokOut l a e).2.1) (tokOut l a e).2.2 from ⟨h.1, T.second h.2.1 h.2.2⟩))
        rw [← hq] at H1 H2 ha2
        simp only [tk4] at H1 H2 ha2
        obtain ⟨d, hd⟩ : ∃ z : Int, z = (d0 : Int) := ⟨_, rfl⟩
        obtain ⟨p, hp⟩ : ∃ z : Int, z = (p0 : Int) := ⟨_, rfl⟩
        obtain ⟨s, hs'⟩ : ∃ z : Int, z = (s0 : Int) := ⟨_, rfl⟩
        obtain ⟨c, hc'⟩ : ∃ z : Int, z = (c0 : Int) := ⟨_, rfl⟩
        rw [← hd, ← hp, ← hs', ← hc'] at H1 H2
        clear hq hd hp hs' hc' T d3 hs
        go_wp2_with fail
        refine wp_region_head 4 50 #[true, true, true, true, false, false, false, false, false, false, false, false, false, false, false, false, false, false, false, false, false, false, false, false] [.pointer (some ⟨gr, 0, none⟩), .agg (tks d p s c).toArray, .pointer (some ⟨gm, 0, none⟩), .agg (tks d p s c).toArray] (fun w' => Two w w' gr gm l a2 e2 (l.drop a2) e2) (by kernel_rfl) (by kernel_rfl) (by kernel_rfl) (by kernel_rfl) (by rfl) ?_ ?_
        · intro TAIL
          have T0 := HT.out.later ((Below.refl _ _).drew)
          refine wpAny_step (fuel := 23) [0, 2] (by kernel_rfl) rfl (fun i hi => ?_)
          simp only [List.mem_cons, List.not_mem_nil, or_false] at hi
          rcases hi with rfl | rfl
          · refine wpOp_move _ rfl (.tmp 3) rfl (by rfl) ?_
            simp only [Act.put, List.setIfInBounds_toArray, List.set_cons_zero, List.set_cons_succ]
            refine wpAny_step (fuel := 22) [1, 2] (by kernel_rfl) rfl (fun i hi => ?_)
            simp only [List.mem_cons, List.not_mem_nil, or_false] at hi
            rcases hi with rfl | rfl
            · refine wpOp_call _ rfl 28 #[.pointer (some ⟨gr, 0, none⟩)] (by simp [go_sem]) (by rfl) ((H1.out _ T0).mono ?_)
              rintro e' w1 ⟨rfl, T1⟩
              refine ⟨_, rfl, ?_⟩
              simp only [Act.put, List.setIfInBounds_toArray, List.set_cons_zero, List.set_cons_succ]
              refine wpAny_step (fuel := 21) [2] (by kernel_rfl) rfl (fun i hi => ?_)
              simp only [List.mem_cons, List.not_mem_nil, or_false] at hi
              subst hi
              refine wpOp_move _ rfl (.tmp 4) rfl (by rfl) ?_
              simp only [Act.put, List.setIfInBounds_toArray, List.set_cons_zero, List.set_cons_succ]
              refine wpAny_step (fuel := 20) [3] (by kernel_rfl) rfl (fun i hi => ?_)
              simp only [List.mem_cons, List.not_mem_nil, or_false] at hi
              subst hi
              refine wpOp_call _ rfl 29 #[.pointer (some ⟨gm, 0, none⟩)] (by simp [go_sem]) (by rfl) ((H2.out _ T1).mono ?_)
              rintro e' w2 ⟨rfl, T2⟩
              refine ⟨_, rfl, ?_⟩
              simp only [Act.put, List.setIfInBounds_toArray, List.set_cons_zero, List.set_cons_succ]
              exact TAIL _ T2
            · refine wpOp_move _ rfl (.tmp 4) rfl (by rfl) ?_
              simp only [Act.put, List.setIfInBounds_toArray, List.set_cons_zero, List.set_cons_succ]
              refine wpAny_step (fuel := 21) [1] (by kernel_rfl) rfl (fun i hi => ?_)
              simp only [List.mem_cons, List.not_mem_nil, or_false] at hi
              subst hi
              refine wpOp_call _ rfl 28 #[.pointer (some ⟨gr, 0, none⟩)] (by simp [go_sem]) (by rfl) ((H1.out _ T0).mono ?_)
              rintro e' w1 ⟨rfl, T1⟩
              refine ⟨_, rfl, ?_⟩
              simp only [Act.put, List.setIfInBounds_toArray, List.set_cons_zero, List.set_cons_succ]
              refine wpAny_step (fuel := 20) [3] (by kernel_rfl) rfl (fun i hi => ?_)
              simp only [List.mem_cons, List.not_mem_nil, or_false] at hi
              subst hi
              refine wpOp_call _ rfl 29 #[.pointer (some ⟨gm, 0, none⟩)] (by simp [go_sem]) (by rfl) ((H2.out _ T1).mono ?_)
              rintro e' w2 ⟨rfl, T2⟩
              refine ⟨_, rfl, ?_⟩
              simp only [Act.put, List.setIfInBounds_toArray, List.set_cons_zero, List.set_cons_succ]
              exact TAIL _ T2
          · refine wpOp_move _ rfl (.tmp 4) rfl (by rfl) ?_
            simp only [Act.put, List.setIfInBounds_toArray, List.set_cons_zero, List.set_cons_succ]
            refine wpAny_step (fuel := 22) [0] (by kernel_rfl) rfl (fun i hi => ?_)
            simp only [List.mem_cons, List.not_mem_nil, or_false] at hi
            subst hi
            refine wpOp_move _ rfl (.tmp 3) rfl (by rfl) ?_
            simp only [Act.put, List.setIfInBounds_toArray, List.set_cons_zero, List.set_cons_succ]
            refine wpAny_step (fuel := 21) [1] (by kernel_rfl) rfl (fun i hi => ?_)
            simp only [List.mem_cons, List.not_mem_nil, or_false] at hi
            subst hi
            refine wpOp_call _ rfl 28 #[.pointer (some ⟨gr, 0, none⟩)] (by simp [go_sem]) (by rfl) ((H1.out _ T0).mono ?_)
            rintro e' w1 ⟨rfl, T1⟩
            refine ⟨_, rfl, ?_⟩
            simp only [Act.put, List.setIfInBounds_toArray, List.set_cons_zero, List.set_cons_succ]
            refine wpAny_step (fuel := 20) [3] (by kernel_rfl) rfl (fun i hi => ?_)
            simp only [List.mem_cons, List.not_mem_nil, or_false] at hi
            subst hi
            refine wpOp_call _ rfl 29 #[.pointer (some ⟨gm, 0, none⟩)] (by simp [go_sem]) (by rfl) ((H2.out _ T1).mono ?_)
            rintro e' w2 ⟨rfl, T2⟩
            refine ⟨_, rfl, ?_⟩
            simp only [Act.put, List.setIfInBounds_toArray, List.set_cons_zero, List.set_cons_succ]
            exact TAIL _ T2
        · intro w5 T5
          obtain ⟨rest, hrest⟩ : ∃ r, r = l.length - a2 := ⟨_, rfl⟩
          obtain ⟨sr, hsr⟩ : ∃ sr, sr = str (l.drop a2) := ⟨_, rfl⟩
          have zr : sr.size = rest := by rw [hsr, str_size, List.length_drop, hrest]
          have hr2 : rest ≤ 2000 := by omega
          have HLE := Lib.hid (fun wx (T : Two w wx gr gm l a2 e2 (l.drop a2) e2) => two_left T ha2 hm rest hrest)
          have HER := Lib.hid (fun wx (T : Two w wx gr gm l a2 e2 (l.drop a2) e2) => two_err T)
          have hm0 : ∀ k : LW w5, k.val.cell? ⟨gm, 0, none⟩ = some (.string sr) := fun k => by rw [hsr]; exact (two_cells (T5.later k.le)).1
          have hm1 : ∀ k : LW w5, k.val.cell? ⟨gm, 1, none⟩ = some (.int .i64 e2) := fun k => (two_cells (T5.later k.le)).2
          clear hrest hsr
          simp only [putsAll, List.drop_succ_cons, List.drop_zero]
          simp only [Act.put, List.setIfInBounds_toArray, List.set_cons_zero, List.set_cons_succ]
          refine wpG_run (by rfl) (by rfl) (.bool false) (fun w1 hl => exec_neq 42 _ (.tmp 21) (.tmp 23) rfl _ _ rfl rfl guard_tok true (eq_tok 9998 d p s c w1)) ?_
          simp only [Act.put, List.setIfInBounds_toArray, List.set_cons_zero, List.set_cons_succ]
          iterate 2 (refine wpG_quiet (by rfl) (by rfl) (by rfl) (fun K hK => ?_); go_big_quiet_op; refine hK _ ?_; clear hK K)
          refine wpG_call (by rfl) (by rfl) 30 #[.pointer (some ⟨gr, 0, none⟩)] (.int .i64 e2) (by intro _; simp [go_sem]) (by kernel_rfl) (fun w1 hl => HER.out w1 (T5.later hl.1)) ?_
          simp only [Act.put, List.setIfInBounds_toArray, List.set_cons_zero, List.set_cons_succ]
          iterate 8 (refine wpG_quiet (by rfl) (by rfl) (by rfl) (fun K hK => ?_); go_big_quiet_op; refine hK _ ?_; clear hK K)
          refine wpG_call (by rfl) (by rfl) 31 #[.pointer (some ⟨gr, 0, none⟩)] (.int .i64 rest) (by intro _; simp [go_sem]) (by kernel_rfl) (fun w1 hl => HLE.out w1 (T5.later hl.1)) ?_
          simp only [Act.put, List.setIfInBounds_toArray, List.set_cons_zero, List.set_cons_succ]
          iterate 7 (refine wpG_quiet (by rfl) (by rfl) (by rfl) (fun K hK => ?_); go_big_quiet_op; refine hK _ ?_; clear hK K)
          refine wpG_nil (fun w6 hl6 _ => ?_)
          have T6 := T5.later hl6
          go_wp2_with fail
          go_roundw
          case rel => exact ⟨k + 1, a2, e2, by omega, by go_num, T6, ha2, hm⟩
          case measure => simp [intOf]; omega
      · obtain rfl : k = 4 := by omega
        clear d3 hs
        go_wp2_with fail
        refine (nil_tok _).mono ?_
        rintro e' w2 ⟨rfl, b2⟩
        have T2 := HT.out.later b2
        clear T HT b2
        go_wp2_with (first
          | (refine wpList_exec (by rfl) (.bool true) (exec_eql 42 _ (.tmp 44) (.tmp 45) rfl _ _ rfl rfl guard_tok true (eq_tok 9998 0 0 0 0 _)) ?_)
          | fail)
        refine (HAW.out _ T2.2.2.2).mono ?_
        rintro e' w3 ⟨rfl, b3⟩
        have T3 := T2.later b3
        go_wp2_with fail
        go_ret
        exact ⟨rfl, T3.2.2.2⟩
  · have d3 : decide ((500 : Int) < (n : Int)) = true := by simp; omega
    clear hs hn
    go_enter Tryd.func6, Tryd.ntmps6
    go_wp2_with fail
    refine (HAW.out _ (Below.refl _ _)).mono ?_
    rintro e' w3 ⟨rfl, b3⟩
    go_wp2_with fail
    go_ret
    exact ⟨rfl, b3⟩
end Go.Proofs.YticdpfjajkfheaaDoor
