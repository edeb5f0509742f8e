/- Cards as bytes: whether the layer is awake; a slice of bytes as a string. -/
import Derived.Test.YticdpfjajkfheaaM12
import Derived.Test.YticdpfjajkfheaaM9
import Derived.Test.YticdpfjajkfheaaM3
import Derived.Test.YticdpfjajkfheaaM10
import Derived.Test.YticdpfjajkfheaaM11
namespace Go.Proofs.Yticdpfjajkfheaa
set_option linter.unusedVariables false
open Go Go.RowKit BitM OctM

theorem str_conv (w : World) (B : Nat) (A : Option Addr) (n c : Nat) (l : List UInt8) (s : ByteArray) (hn : l.length = n) (hs : Sees w B A (bvs l)) (h : s = str l) : (convert 30 9 (.slice A n c)).run Try.prog w = .ok (.string s) w := by
  subst h
  exact run_str (P := Try.prog) w B 30 5 9 Try.underlying30 Try.underlying5 Try.underlying9 A n c l hn hs

section
variable {P : Program} {w : World} {a : Act} {op : Oper}
theorem exec_conv (x : Operand) (t u : TypeId) (ho : op.op = .convert t u x) (v : Value) (hx : a.eval x = v) (r : Value) (h : (convert t u v).run P w = .ok r w) : (execOp a.eval op).run P w = .ok (.value r) w := by
  unfold execOp
  simp only [ho, hx, Sem.run_bind, Sem.run_pure, Result.andThen_ok, h]
end

/-- The card that awake writes. -/
def awk : List V3 := zv :: (1, 7, ⟨#[]⟩) :: List.replicate 6 zv
theorem awk_bytes : cbs 1 2 1 awk = [1, 2, 1, 2, 1, 7] := by decide +kernel
theorem awk_cells : (ccells 1 2 1 zeros).take 6 ++ vcells (1, 7, ⟨#[]⟩) ++ (ccells 1 2 1 zeros).drop 9 = ccells 1 2 1 awk := rfl

set_option maxRecDepth 100000 in
set_option maxHeartbeats 3200000 in
theorem wire_awake (w : World) : Calls Try.prog 8 #[] w fun e w' => e = .returned (.bool true) ∧ Below w.heap.size w w' := by
  have HPC := Lib.hid (fun wx : World => putcard_any 1 2 1 awk none 0 0 [] wx rfl (by decide) rfl Sees.nil_ (by omega))
  rw [List.nil_append, awk_bytes] at HPC
  have B1 := Blk.new w (ccells 0 0 0 zeros) 27
  have T1 := B1.there 0 27 (by rw [ccells_len 0 0 0 zeros_len]; omega)
  have F1 := B1.whole (ds := ccells 1 2 1 zeros) rfl
  have T2 := F1.there 6 3 (by rw [ccells_len 1 2 1 zeros_len]; omega)
  have F2 := F1.sets (vcells (1, 7, ⟨#[]⟩)) 6 (by rw [ccells_len 1 2 1 zeros_len]; decide)
  have F2' : Blk (((w.alloc (.cells (ccells 0 0 0 zeros).toArray 27)).setCells w.heap.size 0 (ccells 1 2 1 zeros)).setCells w.heap.size 6 (vcells (1, 7, ⟨#[]⟩))) w.heap.size (ccells 1 2 1 awk) := F2
  have hb2 : Below w.heap.size w (((w.alloc (.cells (ccells 0 0 0 zeros).toArray 27)).setCells w.heap.size 0 (ccells 1 2 1 zeros)).setCells w.heap.size 6 (vcells (1, 7, ⟨#[]⟩))) := below_sets (Nat.le_refl _) _ 6 (below_sets (Nat.le_refl _) _ 0 ((Below.refl w.heap.size w).alloc (Nat.le_refl _) _))
  have O1 : (ccells 1 2 1 zeros).toArray.all (·.oneCell') = true := all_oneCell_toArray (ccells_one _ _ _ _)
  have O2 : (vcells (1, 7, ⟨#[]⟩)).toArray.all (·.oneCell') = true := all_oneCell_toArray (by intro v hv; simp only [vcells, List.mem_cons, List.not_mem_nil, or_false] at hv; rcases hv with rfl | rfl | rfl <;> rfl)
  have hu := Try.underlying27
  have hlen : (ccells 1 2 1 awk).length = 27 := ccells_len 1 2 1 rfl
  obtain ⟨ck, hck⟩ : ∃ z, z = ccells 1 2 1 awk := ⟨_, rfl⟩
  rw [← hck] at F2' HPC hlen
  have HL := Lib.hid hlen
  clear F2 F1 B1 hck hlen
  go_enter Try.func8, Try.ntmps8
  go_wp2_with (first
    | (refine wpList_store_mid rfl 27 (.tmp 1) (.tmp 2) rfl w.heap.size 0 (ccells 1 2 1 zeros).toArray rfl rfl T1 info_card O1 ?_
       simp only [Act.put]
       generalize hw6 : World.setCells _ w.heap.size 0 (ccells 1 2 1 zeros).toArray.toList = w6
       have T2' : w6.there w.heap.size 6 3 := hw6 ▸ T2
       have F6 : Blk (w6.setCells w.heap.size 6 (vcells (1, 7, ⟨#[]⟩))) w.heap.size ck := hw6 ▸ F2'
       have hb6 : Below w.heap.size w (w6.setCells w.heap.size 6 (vcells (1, 7, ⟨#[]⟩))) := hw6 ▸ hb2
       clear hw6 T1 T2 F2' hb2 O1)
    | (refine wpList_store_mid rfl 24 (.tmp 5) (.tmp 3) rfl w.heap.size 6 (vcells (1, 7, ⟨#[]⟩)).toArray rfl rfl T2' info_val O2 ?_
       simp only [Act.put]
       generalize hw7 : World.setCells _ w.heap.size 6 (vcells (1, 7, ⟨#[]⟩)).toArray.toList = w7
       have F7 : Blk w7 w.heap.size ck := hw7 ▸ F6
       have hb7 : Below w.heap.size w w7 := hw7 ▸ hb6
       have RG := F7.wholeC
       clear hw7 T2' F6 F7 hb6 O2)
    | (refine wpList_load_mid rfl 27 (.tmp 1) rfl w.heap.size 0 rfl ck _ RG hu rfl (by rw [HL.out]; exact info_card) ?_)
    | fail)
  refine (HPC.out _).mono ?_
  rintro e w8 ⟨A8, c8, rfl, o8, b8⟩
  have hr := str_conv w8 w8.heap.size A8 6 c8 _ ⟨#[1, 2, 1, 2, 1, 7]⟩ rfl o8.sees rfl
  clear RG o8
  go_wp2_with (first
    | (refine wpList_exec (by rfl) (.string ⟨#[1, 2, 1, 2, 1, 7]⟩) (exec_conv (.tmp 7) 30 9 rfl _ rfl _ hr) ?_)
    | fail)
  go_ret
  exact ⟨rfl, hb7.trans (b8.mono hb7.size)⟩
end Go.Proofs.Yticdpfjajkfheaa

/- CardwireReads: the walk. -/
namespace Go.Proofs.Yticdpfjajkfheaa
set_option linter.unusedVariables false
set_option linter.unusedSimpArgs false
open Go Go.RowKit OctM

theorem guard_patch : Try.prog.eqGuardType Try.prog.depth 29 = false := by kernel_rfl
theorem same_v (v : V3) (w : World) : (Op.equalIn 10000 24 (.agg (vcells v).toArray) (.agg (vcells v).toArray)).run Try.prog w = .ok true w := by
  rw [eq_val 9998 v v w, decide_eq_true rfl]
theorem same_c (id ver lab : Int) (f : List V3) (hf : f.length = 8) (w : World) : (Op.equalIn 10000 27 (.agg (ccells id ver lab f).toArray) (.agg (ccells id ver lab f).toArray)).run Try.prog w = .ok true w := by
  rw [eq_card 9996 id ver lab id ver lab f f hf hf w, decide_eq_true (show id = id ∧ ver = ver ∧ lab = lab ∧ f = f from ⟨rfl, rfl, rfl, rfl⟩)]
theorem same_p (m lab : Int) (f : List V3) (hf : f.length = 8) (w : World) : (Op.equalIn 10000 29 (.agg (pcells m lab f).toArray) (.agg (pcells m lab f).toArray)).run Try.prog w = .ok true w := by
  rw [eq_patch 9996 m lab m lab f f hf hf w, decide_eq_true (show m = m ∧ lab = lab ∧ f = f from ⟨rfl, rfl, rfl⟩)]

set_option maxRecDepth 100000 in
set_option maxHeartbeats 6400000 in
theorem walk_cwreads (A : Option Addr) (n c : Nat) (l : List UInt8) (B : Option Addr) (nk ck : Nat) (ks : List Int) (w : World) (hn : l.length = n) (hs : Sees w w.heap.size A (bvs l)) (hkn : ks.length = nk) (hkm : nk ≤ maxLen) (ht : Sees w w.heap.size B (ivs ks)) :
    Calls Try.prog 4 #[.slice A n c, .slice B nk ck] w fun e w' => e = .returned (.bool true) ∧ Below w.heap.size w w' := by
  have HAW := Lib.hid (fun (wx : World) => wire_awake wx)
  unfold maxLen at hkm
  by_cases h5 : n ≤ 1000
  · have d3 : decide ((1000 : Int) < (n : Int)) = false := by simp; omega
    have HN := Lib.hid (rd_new A n c l w hn hs (by omega))
    have HNL := Lib.hid hn
    have HKN := Lib.hid hkn
    clear hkn
    go_enter Try.func4, Try.ntmps4
    go_wp2_with fail
    refine HN.out.mono ?_
    rintro e w1 ⟨gr, rfl, r1, b1⟩
    obtain ⟨sl, hsl⟩ : ∃ sl, sl = str l := ⟨_, rfl⟩
    have hc1 := str_conv w1 w1.heap.size A n c l sl HNL.out ((hs.below b1).more b1.size) hsl
    have hgr := r1.block
    have HSL := Lib.hid hsl
    clear hn hsl
    go_wp2_with fail
    have T0 : Same2 w (w1.alloc (.cells #[.string sl, .int .i64 0] 46)) gr w1.heap.size l 0 0 := by
      refine ⟨⟨r1.later ((Below.refl _ _).alloc (Nat.le_refl _) _), ?_, hgr.2, b1.alloc b1.size _⟩, Nat.zero_le _, by rw [HNL.out]; omega⟩
      have h := own_lit w1 w.heap.size 46 #[.string sl, .int .i64 0] b1.size (by simp [maxLen])
      rw [HSL.out] at h ⊢
      exact h
    generalize hgm : w1.heap.size = gm at T0 ⊢
    clear hc1 r1 b1 hgr hgm HSL HN
    go_loopw [7] (fun i wr => ∃ (k a : Nat) (e : Int), k ≤ 20 ∧ k ≤ nk ∧ i = .int .i64 k ∧ Same2 w wr gr gm l a e) (fun i _ => 20 - (intOf i).toNat)
    case atStart => exact ⟨0, 0, 0, by omega, by omega, rfl, T0⟩
    case round =>
      obtain ⟨k, a, e, hk, hk2, rfl, T, ha, hm⟩ := hrel
      have HT := Lib.hid T
      clear T0 d3
      by_cases hl1 : k < nk
      · have q1 : decide ((k : Int) < (nk : Int)) = true := by simp; omega
        by_cases hl2 : k < 20
        · have q2 : decide ((k : Int) < 20) = true := by simp; omega
          have hkk : k < ks.length := by rw [HKN.out]; exact hl1
          obtain ⟨b, o, rfl, hb, ck0⟩ := ht.int k hkk
          have ck1 : ∀ {wx : World} {l' : List UInt8} {a' : Nat} {e' : Int} {l2 : List UInt8} {e2 : Int}, Two w wx gr gm l' a' e' l2 e2 → wx.cell? ⟨b, o + k, none⟩ = some (.int .i64 ks[k]) := fun h => (h.2.2.2.cell (p := ⟨b, o + k, none⟩) hb).trans ck0
          have cz := ck1 T
          obtain ⟨z, hz⟩ : ∃ z, z = ks[k] := ⟨_, rfl⟩
          rw [← hz] at cz
          clear ck0 ck1 hz hs T ht
          have k0 : (0 : Int) ≤ (k : Int) := by omega
          have kn : (k : Int) < (nk : Int) := by omega
          by_cases z0 : z = 0
          · have t0 : (z == 0) = true := by simpa using z0
            clear z0
            have ha2 := valOut_at l a e ha
            have H1 := Lib.hid (fun wx (T : Two w wx gr gm l a e (l.drop a) e) => (rd_value _ gr l a e wx T.1 ha hm).mono fun x w' h => (show x = .returned (.agg (vcells (valOut l a e).1).toArray) ∧ Two w w' gr gm l (valOut l a e).2.1 (valOut l a e).2.2 (l.drop a) e from ⟨h.1, T.first h.2.1 h.2.2⟩))
            have H2 := Lib.hid (fun wx (T : Two w wx gr gm l (valOut l a e).2.1 (valOut l a e).2.2 (l.drop a) e) => (rr_value _ gm l a e wx T.2.1 ha hm).mono fun x w' h => (show x = .returned (.agg (vcells (valOut l a e).1).toArray) ∧ Two w w' gr gm l (valOut l a e).2.1 (valOut l a e).2.2 (l.drop (valOut l a e).2.1) (valOut l a e).2.2 from ⟨h.1, T.second h.2.1 h.2.2⟩))
            obtain ⟨cs, hcs⟩ : ∃ cs, cs = vcells (valOut l a e).1 := ⟨_, rfl⟩
            have HSC : Hid (∀ wx : World, (Op.equalIn 10000 24 (.agg cs.toArray) (.agg cs.toArray)).run Try.prog wx = .ok true wx) := Lib.hid (fun wx => by rw [hcs]; exact same_v _ wx)
            rw [← hcs] at H1 H2
            clear hcs
            obtain ⟨⟨q0, a2, e2⟩, hq⟩ : ∃ q, q = valOut l a e := ⟨_, rfl⟩
            rw [← hq] at H1 H2 ha2
            simp only at H1 H2 ha2
            clear hq
            go_wp2_with fail
            refine (H1.out _ HT.out).mono ?_
            rintro e' w3 ⟨rfl, T3⟩
            go_wp2_with fail
            refine (H2.out _ T3).mono ?_
            rintro e' w5 ⟨rfl, T5⟩
            clear T3
            obtain ⟨rest, hrest⟩ : ∃ r, r = l.length - a2 := ⟨_, rfl⟩
            obtain ⟨sr, hsr⟩ : ∃ sr, sr = str (l.drop a2) := ⟨_, rfl⟩
            have zr : sr.size = rest := by rw [hsr, str_size, List.length_drop, hrest]
            have hr2 : rest ≤ 2000 := by omega
            have HLE := Lib.hid (fun wx (T : Two w wx gr gm l a2 e2 (l.drop a2) e2) => two_left T ha2 hm rest hrest)
            have HER := Lib.hid (fun wx (T : Two w wx gr gm l a2 e2 (l.drop a2) e2) => two_err T)
            have hm0 : ∀ k : LW w5, k.val.cell? ⟨gm, 0, none⟩ = some (.string sr) := fun k => by rw [hsr]; exact (two_cells (T5.later k.le)).1
            have hm1 : ∀ k : LW w5, k.val.cell? ⟨gm, 1, none⟩ = some (.int .i64 e2) := fun k => (two_cells (T5.later k.le)).2
            clear hrest hsr
            go_wp2_with (first
              | (refine wpList_exec (by rfl) (.bool false) (exec_neq 24 _ (.tmp 40) (.tmp 42) rfl _ _ rfl rfl guard_val true (HSC.out _)) ?_)
              | fail)
            refine wp_region_steady [] 84 (by kernel_rfl) (by kernel_rfl) (by kernel_rfl) (by rfl) ?_
            simp only [Act.put, List.setIfInBounds_toArray, List.set_cons_zero, List.set_cons_succ]
            iterate 1 (refine wpG_quiet (by rfl) (by rfl) (by rfl) (fun K hK => ?_); go_big_quiet_op; refine hK _ ?_; clear hK K)
            refine wpG_call (by rfl) (by rfl) 22 #[.pointer (some ⟨gr, 0, none⟩)] (.int .i64 e2) (by intro _; simp [go_sem]) (by kernel_rfl) (fun w1 hl => HER.out w1 (T5.later hl.1)) ?_
            simp only [Act.put, List.setIfInBounds_toArray, List.set_cons_zero, List.set_cons_succ]
            iterate 7 (refine wpG_quiet (by rfl) (by rfl) (by rfl) (fun K hK => ?_); go_big_quiet_op; refine hK _ ?_; clear hK K)
            refine wpG_call (by rfl) (by rfl) 23 #[.pointer (some ⟨gr, 0, none⟩)] (.int .i64 rest) (by intro _; simp [go_sem]) (by kernel_rfl) (fun w1 hl => HLE.out w1 (T5.later hl.1)) ?_
            simp only [Act.put, List.setIfInBounds_toArray, List.set_cons_zero, List.set_cons_succ]
            iterate 7 (refine wpG_quiet (by rfl) (by rfl) (by rfl) (fun K hK => ?_); go_big_quiet_op; refine hK _ ?_; clear hK K)
            refine wpG_nil (fun w6 hl6 _ => ?_)
            have T6 := T5.later hl6
            go_wp2_with fail
            go_roundw
            case rel => exact ⟨k + 1, a2, e2, by omega, by omega, by go_num, T6, ha2, hm⟩
            case measure => simp [intOf]; omega
          · have t0 : (z == 0) = false := by simpa using z0
            by_cases z1 : z = 1
            · have t1 : (z == 1) = true := by simpa using z1
              clear z0 z1
              have ha2 := cardOut_at l a e ha
              have H1 := Lib.hid (fun wx (T : Two w wx gr gm l a e (l.drop a) e) => (rd_card _ gr l a e wx T.1 ha hm).mono fun x w' h => (show x = .returned (.agg (cc4 (cardOut l a e).1).toArray) ∧ Two w w' gr gm l (cardOut l a e).2.1 (cardOut l a e).2.2 (l.drop a) e from ⟨h.1, T.first h.2.1 h.2.2⟩))
              have H2 := Lib.hid (fun wx (T : Two w wx gr gm l (cardOut l a e).2.1 (cardOut l a e).2.2 (l.drop a) e) => (rr_card _ gm l a e wx T.2.1 ha hm).mono fun x w' h => (show x = .returned (.agg (cc4 (cardOut l a e).1).toArray) ∧ Two w w' gr gm l (cardOut l a e).2.1 (cardOut l a e).2.2 (l.drop (cardOut l a e).2.1) (cardOut l a e).2.2 from ⟨h.1, T.second h.2.1 h.2.2⟩))
              obtain ⟨cs, hcs⟩ : ∃ cs, cs = cc4 (cardOut l a e).1 := ⟨_, rfl⟩
              have HSC : Hid (∀ wx : World, (Op.equalIn 10000 27 (.agg cs.toArray) (.agg cs.toArray)).run Try.prog wx = .ok true wx) := Lib.hid (fun wx => by rw [hcs]; exact same_c _ _ _ _ (cardOut_len l a e) wx)
              rw [← hcs] at H1 H2
              clear hcs
              obtain ⟨⟨q0, a2, e2⟩, hq⟩ : ∃ q, q = cardOut l a e := ⟨_, rfl⟩
              rw [← hq] at H1 H2 ha2
              simp only at H1 H2 ha2
              clear hq
              go_wp2_with fail
              refine (H1.out _ HT.out).mono ?_
              rintro e' w3 ⟨rfl, T3⟩
              go_wp2_with fail
              refine (H2.out _ T3).mono ?_
              rintro e' w5 ⟨rfl, T5⟩
              clear T3
              obtain ⟨rest, hrest⟩ : ∃ r, r = l.length - a2 := ⟨_, rfl⟩
              obtain ⟨sr, hsr⟩ : ∃ sr, sr = str (l.drop a2) := ⟨_, rfl⟩
              have zr : sr.size = rest := by rw [hsr, str_size, List.length_drop, hrest]
              have hr2 : rest ≤ 2000 := by omega
              have HLE := Lib.hid (fun wx (T : Two w wx gr gm l a2 e2 (l.drop a2) e2) => two_left T ha2 hm rest hrest)
              have HER := Lib.hid (fun wx (T : Two w wx gr gm l a2 e2 (l.drop a2) e2) => two_err T)
              have hm0 : ∀ k : LW w5, k.val.cell? ⟨gm, 0, none⟩ = some (.string sr) := fun k => by rw [hsr]; exact (two_cells (T5.later k.le)).1
              have hm1 : ∀ k : LW w5, k.val.cell? ⟨gm, 1, none⟩ = some (.int .i64 e2) := fun k => (two_cells (T5.later k.le)).2
              clear hrest hsr
              go_wp2_with (first
                | (refine wpList_exec (by rfl) (.bool false) (exec_neq 27 _ (.tmp 47) (.tmp 49) rfl _ _ rfl rfl guard_card true (HSC.out _)) ?_)
                | fail)
              refine wp_region_steady [] 84 (by kernel_rfl) (by kernel_rfl) (by kernel_rfl) (by rfl) ?_
              simp only [Act.put, List.setIfInBounds_toArray, List.set_cons_zero, List.set_cons_succ]
              iterate 1 (refine wpG_quiet (by rfl) (by rfl) (by rfl) (fun K hK => ?_); go_big_quiet_op; refine hK _ ?_; clear hK K)
              refine wpG_call (by rfl) (by rfl) 22 #[.pointer (some ⟨gr, 0, none⟩)] (.int .i64 e2) (by intro _; simp [go_sem]) (by kernel_rfl) (fun w1 hl => HER.out w1 (T5.later hl.1)) ?_
              simp only [Act.put, List.setIfInBounds_toArray, List.set_cons_zero, List.set_cons_succ]
              iterate 7 (refine wpG_quiet (by rfl) (by rfl) (by rfl) (fun K hK => ?_); go_big_quiet_op; refine hK _ ?_; clear hK K)
              refine wpG_call (by rfl) (by rfl) 23 #[.pointer (some ⟨gr, 0, none⟩)] (.int .i64 rest) (by intro _; simp [go_sem]) (by kernel_rfl) (fun w1 hl => HLE.out w1 (T5.later hl.1)) ?_
              simp only [Act.put, List.setIfInBounds_toArray, List.set_cons_zero, List.set_cons_succ]
              iterate 7 (refine wpG_quiet (by rfl) (by rfl) (by rfl) (fun K hK => ?_); go_big_quiet_op; refine hK _ ?_; clear hK K)
              refine wpG_nil (fun w6 hl6 _ => ?_)
              have T6 := T5.later hl6
              go_wp2_with fail
              go_roundw
              case rel => exact ⟨k + 1, a2, e2, by omega, by omega, by go_num, T6, ha2, hm⟩
              case measure => simp [intOf]; omega
            · have t1 : (z == 1) = false := by simpa using z1
              clear z0 z1
              have ha2 := patOut_at l a e ha
              have H1 := Lib.hid (fun wx (T : Two w wx gr gm l a e (l.drop a) e) => (rd_patch _ gr l a e wx T.1 ha hm).mono fun x w' h => (show x = .returned (.agg (pc3 (patOut l a e).1).toArray) ∧ Two w w' gr gm l (patOut l a e).2.1 (patOut l a e).2.2 (l.drop a) e from ⟨h.1, T.first h.2.1 h.2.2⟩))
              have H2 := Lib.hid (fun wx (T : Two w wx gr gm l (patOut l a e).2.1 (patOut l a e).2.2 (l.drop a) e) => (rr_patch _ gm l a e wx T.2.1 ha hm).mono fun x w' h => (show x = .returned (.agg (pc3 (patOut l a e).1).toArray) ∧ Two w w' gr gm l (patOut l a e).2.1 (patOut l a e).2.2 (l.drop (patOut l a e).2.1) (patOut l a e).2.2 from ⟨h.1, T.second h.2.1 h.2.2⟩))
              obtain ⟨cs, hcs⟩ : ∃ cs, cs = pc3 (patOut l a e).1 := ⟨_, rfl⟩
              have HSC : Hid (∀ wx : World, (Op.equalIn 10000 29 (.agg cs.toArray) (.agg cs.toArray)).run Try.prog wx = .ok true wx) := Lib.hid (fun wx => by rw [hcs]; exact same_p _ _ _ (patOut_len l a e) wx)
              rw [← hcs] at H1 H2
              clear hcs
              obtain ⟨⟨q0, a2, e2⟩, hq⟩ : ∃ q, q = patOut l a e := ⟨_, rfl⟩
              rw [← hq] at H1 H2 ha2
              simp only at H1 H2 ha2
              clear hq
              go_wp2_with fail
              refine (H1.out _ HT.out).mono ?_
              rintro e' w3 ⟨rfl, T3⟩
              go_wp2_with fail
              refine (H2.out _ T3).mono ?_
              rintro e' w5 ⟨rfl, T5⟩
              clear T3
              obtain ⟨rest, hrest⟩ : ∃ r, r = l.length - a2 := ⟨_, rfl⟩
              obtain ⟨sr, hsr⟩ : ∃ sr, sr = str (l.drop a2) := ⟨_, rfl⟩
              have zr : sr.size = rest := by rw [hsr, str_size, List.length_drop, hrest]
              have hr2 : rest ≤ 2000 := by omega
              have HLE := Lib.hid (fun wx (T : Two w wx gr gm l a2 e2 (l.drop a2) e2) => two_left T ha2 hm rest hrest)
              have HER := Lib.hid (fun wx (T : Two w wx gr gm l a2 e2 (l.drop a2) e2) => two_err T)
              have hm0 : ∀ k : LW w5, k.val.cell? ⟨gm, 0, none⟩ = some (.string sr) := fun k => by rw [hsr]; exact (two_cells (T5.later k.le)).1
              have hm1 : ∀ k : LW w5, k.val.cell? ⟨gm, 1, none⟩ = some (.int .i64 e2) := fun k => (two_cells (T5.later k.le)).2
              clear hrest hsr
              go_wp2_with (first
                | (refine wpList_exec (by rfl) (.bool false) (exec_neq 29 _ (.tmp 33) (.tmp 35) rfl _ _ rfl rfl guard_patch true (HSC.out _)) ?_)
                | fail)
              refine wp_region_steady [] 84 (by kernel_rfl) (by kernel_rfl) (by kernel_rfl) (by rfl) ?_
              simp only [Act.put, List.setIfInBounds_toArray, List.set_cons_zero, List.set_cons_succ]
              iterate 1 (refine wpG_quiet (by rfl) (by rfl) (by rfl) (fun K hK => ?_); go_big_quiet_op; refine hK _ ?_; clear hK K)
              refine wpG_call (by rfl) (by rfl) 22 #[.pointer (some ⟨gr, 0, none⟩)] (.int .i64 e2) (by intro _; simp [go_sem]) (by kernel_rfl) (fun w1 hl => HER.out w1 (T5.later hl.1)) ?_
              simp only [Act.put, List.setIfInBounds_toArray, List.set_cons_zero, List.set_cons_succ]
              iterate 7 (refine wpG_quiet (by rfl) (by rfl) (by rfl) (fun K hK => ?_); go_big_quiet_op; refine hK _ ?_; clear hK K)
              refine wpG_call (by rfl) (by rfl) 23 #[.pointer (some ⟨gr, 0, none⟩)] (.int .i64 rest) (by intro _; simp [go_sem]) (by kernel_rfl) (fun w1 hl => HLE.out w1 (T5.later hl.1)) ?_
              simp only [Act.put, List.setIfInBounds_toArray, List.set_cons_zero, List.set_cons_succ]
              iterate 7 (refine wpG_quiet (by rfl) (by rfl) (by rfl) (fun K hK => ?_); go_big_quiet_op; refine hK _ ?_; clear hK K)
              refine wpG_nil (fun w6 hl6 _ => ?_)
              have T6 := T5.later hl6
              go_wp2_with fail
              go_roundw
              case rel => exact ⟨k + 1, a2, e2, by omega, by omega, by go_num, T6, ha2, hm⟩
              case measure => simp [intOf]; omega
        · have q2 : decide ((k : Int) < 20) = false := by simp; omega
          clear hs T ht
          go_wp2_with fail
          refine (nil_value _).mono ?_
          rintro e' w2 ⟨rfl, b2⟩
          have T2 := HT.out.later b2
          clear HT b2
          go_wp2_with (first
            | (refine wpList_exec (by rfl) (.bool true) (exec_eql 24 _ (.tmp 68) (.tmp 69) rfl (vcells zv).toArray (vcells zv).toArray (by rfl) (by rfl) guard_val true (same_v zv _)) ?_)
            | fail)
          refine (nil_card _).mono ?_
          rintro e' w3 ⟨rfl, b3⟩
          have T3 := T2.later b3
          clear T2 b3
          go_wp2_with (first
            | (refine wpList_exec (by rfl) (.bool true) (exec_eql 27 _ (.tmp 72) (.tmp 73) rfl (ccells 0 0 0 zeros).toArray (ccells 0 0 0 zeros).toArray (by rfl) (by rfl) guard_card true (same_c 0 0 0 zeros zeros_len _)) ?_)
            | fail)
          refine (nil_patch _).mono ?_
          rintro e' w4 ⟨rfl, b4⟩
          have T4 := T3.later b4
          clear T3 b4
          go_wp2_with (first
            | (refine wpList_exec (by rfl) (.bool true) (exec_eql 29 _ (.tmp 77) (.tmp 78) rfl (pcells 0 0 zeros).toArray (pcells 0 0 zeros).toArray (by rfl) (by rfl) guard_patch true (same_p 0 0 zeros zeros_len _)) ?_)
            | fail)
          refine (HAW.out _).mono ?_
          rintro e' w6 ⟨rfl, b6⟩
          have T6 := T4.later b6
          go_wp2_with fail
          go_ret
          exact ⟨rfl, T6.2.2.2⟩
      · have q1 : decide ((k : Int) < (nk : Int)) = false := by simp; omega
        clear hs T ht
        go_wp2_with fail
        refine (nil_value _).mono ?_
        rintro e' w2 ⟨rfl, b2⟩
        have T2 := HT.out.later b2
        clear HT b2
        go_wp2_with (first
          | (refine wpList_exec (by rfl) (.bool true) (exec_eql 24 _ (.tmp 68) (.tmp 69) rfl (vcells zv).toArray (vcells zv).toArray (by rfl) (by rfl) guard_val true (same_v zv _)) ?_)
          | fail)
        refine (nil_card _).mono ?_
        rintro e' w3 ⟨rfl, b3⟩
        have T3 := T2.later b3
        clear T2 b3
        go_wp2_with (first
          | (refine wpList_exec (by rfl) (.bool true) (exec_eql 27 _ (.tmp 72) (.tmp 73) rfl (ccells 0 0 0 zeros).toArray (ccells 0 0 0 zeros).toArray (by rfl) (by rfl) guard_card true (same_c 0 0 0 zeros zeros_len _)) ?_)
          | fail)
        refine (nil_patch _).mono ?_
        rintro e' w4 ⟨rfl, b4⟩
        have T4 := T3.later b4
        clear T3 b4
        go_wp2_with (first
          | (refine wpList_exec (by rfl) (.bool true) (exec_eql 29 _ (.tmp 77) (.tmp 78) rfl (pcells 0 0 zeros).toArray (pcells 0 0 zeros).toArray (by rfl) (by rfl) guard_patch true (same_p 0 0 zeros zeros_len _)) ?_)
          | fail)
        refine (HAW.out _).mono ?_
        rintro e' w6 ⟨rfl, b6⟩
        have T6 := T4.later b6
        go_wp2_with fail
        go_ret
        exact ⟨rfl, T6.2.2.2⟩
  · have d3 : decide ((1000 : Int) < (n : Int)) = true := by simp; omega
    clear hs hn ht hkn
    go_enter Try.func4, Try.ntmps4
    go_wp2_with fail
    refine (HAW.out _).mono ?_
    rintro e' w3 ⟨rfl, b3⟩
    go_wp2_with fail
    go_ret
    exact ⟨rfl, b3⟩
end Go.Proofs.Yticdpfjajkfheaa
