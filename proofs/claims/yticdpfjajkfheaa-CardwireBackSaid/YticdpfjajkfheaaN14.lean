/- CardwireBack: the walk. -/
import Derived.Test.YticdpfjajkfheaaN12
import Derived.Test.YticdpfjajkfheaaN13
import Derived.Test.YticdpfjajkfheaaN9
import Derived.Lib.SmallJoins
import Derived.Deep.Strs
namespace Go.Proofs.Yticdpfjajkfheaa
set_option linter.unusedVariables false
set_option linter.unusedSimpArgs false
open Go Go.RowKit OctM

theorem below_row {a b c : World} {m : Nat} (h : Below a.heap.size a b) (k : b.grownBy c (some m)) (hm : a.heap.size ≤ m) : Below a.heap.size a c :=
  ⟨k.os.trans h.os, k.tape.trans h.tape, k.output.trans h.output, Nat.le_trans h.size k.size, fun i hi => (k.block i (Nat.lt_of_lt_of_le hi h.size) (by simp; omega)).trans (h.block i hi)⟩
theorem Rd.to {w : World} {base g : Nat} {l : List UInt8} {a a' : Nat} {e e' : Int} (h : Rd w base g l a e) (ha : a = a') (he : e = e') : Rd w base g l a' e' := by subst ha he; exact h
set_option maxRecDepth 100000 in
set_option maxHeartbeats 6400000 in
theorem walk_cwback (id ver lab pl : Int) (x : BitVec 32) (C P : List V3) (A : Option Addr) (n c : Nat) (l : List UInt8) (w : World) (hC : C.length = 8) (hP : P.length = 8) (hlb : 0 ≤ lab) (hpl : 0 ≤ pl) (hn : l.length = n) (hs : Sees w w.heap.size A (bvs l)) :
    Calls Try.prog 5 #[.agg (ccells id ver lab C).toArray, .agg (pcells (x.toNat : Int) pl P).toArray, .slice A n c] w fun e w' => e = .returned (.bool true) ∧ Below w.heap.size w w' := by
  have HCL : Hid ((ccells id ver lab C).length = 27) := Lib.hid (ccells_len id ver lab hC)
  have HPL : Hid ((pcells (x.toNat : Int) pl P).length = 26) := Lib.hid (pcells_len (x.toNat : Int) pl hP)
  have HCK := Lib.hid (fun wx : World => rccheck_any id ver lab C wx hC)
  have HPK := Lib.hid (fun wx : World => rpcheck_any x pl P wx hP)
  have B0 := Blk.new w (ccells id ver lab C) 27
  have B1 := Blk.new (w.alloc (.cells (ccells id ver lab C).toArray 27)) (pcells (x.toNat : Int) pl P) 29
  have hw0 := ((Below.refl w.heap.size w).alloc (Nat.le_refl _) (.cells (ccells id ver lab C).toArray 27)).alloc (by simp) (.cells (pcells (x.toNat : Int) pl P).toArray 29)
  replace B0 := B0.alloc (.cells (pcells (x.toNat : Int) pl P).toArray 29)
  have hs1 : (w.alloc (.cells (ccells id ver lab C).toArray 27)).heap.size = w.heap.size + 1 := by simp
  rw [hs1] at B1
  obtain ⟨v, hv⟩ : ∃ v, v = C[1]'(by omega) := ⟨_, rfl⟩
  have HLV0 : Hid (∀ wx : World, Blk wx w.heap.size (ccells id ver lab C) → wx.rangeAt w.heap.size 6 (vcells v)) := Lib.hid (fun wx h => range3 (v := v) (by rw [hv]; exact Blk.field (o := 3) h 1 rfl (by omega)))
  obtain ⟨ck, hck⟩ : ∃ b, b = ccheck id ver lab C := ⟨_, rfl⟩
  rw [← hck] at HCK
  obtain ⟨pk, hpk⟩ : ∃ b, b = pchk x pl P := ⟨_, rfl⟩
  rw [← hpk] at HPK
  obtain ⟨pz, hpz⟩ : ∃ b, b = (pk != 0) := ⟨_, rfl⟩
  have kz : (pk != 0) = pz := hpz.symm
  -- what is read, where all may be
  have HREAD : Hid (ck = true → pz = false → valOut (vbs v ++ (cbs id ver lab C ++ (pbs x pl P ++ l))) 0 0 = (v, (vbs v).length, 0) ∧
      cardOut (vbs v ++ (cbs id ver lab C ++ (pbs x pl P ++ l))) (vbs v).length 0 = ((id, ver, lab, C), (vbs v).length + (cbs id ver lab C).length, 0) ∧
      patOut (vbs v ++ (cbs id ver lab C ++ (pbs x pl P ++ l))) ((vbs v).length + (cbs id ver lab C).length) 0 = (((x.toNat : Int), pl, P), (vbs v).length + (cbs id ver lab C).length + (pbs x pl P).length, 0)) := Lib.hid (by
    intro h1 h2
    rw [h1] at hck
    have h3 : pchk x pl P = 0 := by rw [← hpk]; rw [h2] at hpz; simpa using hpz.symm
    have hvk : vchk v = true := by
      have hh := hck.symm
      unfold ccheck at hh
      rw [Bool.and_eq_true] at hh
      have := vk_get hh.2 1 (by omega)
      rw [hv]
      simpa [List.getD, hC] using this
    refine ⟨?_, ?_, ?_⟩
    · have := valOut_put [] (cbs id ver lab C ++ (pbs x pl P ++ l)) v hvk
      simpa using this
    · exact cardOut_put (vbs v) (pbs x pl P ++ l) id ver lab C hC hlb hck.symm
    · have := patOut_put (vbs v ++ cbs id ver lab C) l x pl P hP hpl h3
      simpa only [List.append_assoc, List.length_append] using this)
  have L1 := vbs_len v
  have L2 := cbs_len id ver lab C
  have L3 := pbs_len x pl P
  obtain ⟨lv, hlv⟩ : ∃ z, z = vbs v := ⟨_, rfl⟩
  obtain ⟨lc, hlc⟩ : ∃ z, z = lv ++ cbs id ver lab C := ⟨_, rfl⟩
  obtain ⟨lp, hlp⟩ : ∃ z, z = lc ++ pbs x pl P := ⟨_, rfl⟩
  obtain ⟨kv, hkv⟩ : ∃ z, z = lv.length := ⟨_, rfl⟩
  obtain ⟨kc, hkc⟩ : ∃ z, z = lc.length := ⟨_, rfl⟩
  obtain ⟨kp, hkp⟩ : ∃ z, z = lp.length := ⟨_, rfl⟩
  have e1 : kv ≤ 40 := by rw [hkv, hlv]; exact L1
  have e12 : kv ≤ kc := by rw [hkc, hlc, List.length_append, ← hkv]; omega
  have e23 : kc ≤ kp := by rw [hkp, hlp, List.length_append, ← hkc]; omega
  have e2 : kc ≤ 440 := by rw [hkc, hlc, List.length_append, ← hkv]; omega
  have e3 : kp ≤ 840 := by rw [hkp, hlp, List.length_append, ← hkc]; omega
  have HREAD2 : Hid (ck = true → pz = false → valOut (lp ++ l) 0 0 = (v, kv, 0) ∧ cardOut (lp ++ l) kv 0 = ((id, ver, lab, C), kc, 0) ∧ patOut (lp ++ l) kc 0 = (((x.toNat : Int), pl, P), kp, 0)) := Lib.hid (by
    intro h1 h2
    have h3 := HREAD.out h1 h2
    have e4 : vbs v ++ (cbs id ver lab C ++ (pbs x pl P ++ l)) = lp ++ l := by rw [hlp, hlc, hlv]; simp only [List.append_assoc]
    have e5 : (vbs v).length = kv := by rw [hkv, hlv]
    have e6 : kv + (cbs id ver lab C).length = kc := by rw [hkc, hlc, List.length_append, hkv]
    have e7 : kc + (pbs x pl P).length = kp := by rw [hkp, hlp, List.length_append, hkc]
    rw [e4, e5, e6, e7] at h3
    exact h3)
  clear HREAD
  have HV : Hid (∀ wx : World, Calls Try.prog 9 #[.slice none 0 0, .agg (vcells v).toArray] wx (GivesBytes wx lv)) := Lib.hid (fun wx => by rw [hlv]; exact putval_any v.1 v.2.1 v.2.2 none 0 0 [] wx rfl Sees.nil_ (by omega))
  have HC : Hid (∀ (A' : Option Addr) (c' : Nat) (wx : World), Sees wx wx.heap.size A' (bvs lv) → Calls Try.prog 11 #[.slice A' kv c', .agg (ccells id ver lab C).toArray] wx (GivesBytes wx lc)) := Lib.hid (fun A' c' wx h => by rw [hlc]; exact putcard_any id ver lab C A' kv c' lv wx hC hlb hkv.symm h (by omega))
  have HP : Hid (∀ (A' : Option Addr) (c' : Nat) (wx : World), Sees wx wx.heap.size A' (bvs lc) → Calls Try.prog 13 #[.slice A' kc c', .agg (pcells (x.toNat : Int) pl P).toArray] wx (GivesBytes wx lp)) := Lib.hid (fun A' c' wx h => by rw [hlp]; exact putpatch_any x pl P A' kc c' lc wx hP hpl hkc.symm h (by omega))
  have HSC := Lib.hid (same_c id ver lab C hC)
  have HSP := Lib.hid (same_p (x.toNat : Int) pl P hP)
  have M1 := Lib.hid hkv
  have M2 := Lib.hid hkc
  have M3 := Lib.hid hkp
  have HNL := Lib.hid hn
  have RF := B0.wholeC
  have RP0 := B1.wholeC
  obtain ⟨cc, hcc⟩ : ∃ z, z = ccells id ver lab C := ⟨_, rfl⟩
  obtain ⟨pc, hpc⟩ : ∃ z, z = pcells (x.toNat : Int) pl P := ⟨_, rfl⟩
  have Hcc : Hid (cc4 (id, ver, lab, C) = cc) := Lib.hid hcc.symm
  have Hpc : Hid (pc3 ((x.toNat : Int), pl, P) = pc) := Lib.hid hpc.symm
  have O10 : cc.toArray.all (·.oneCell') = true := all_oneCell_toArray (by rw [hcc]; exact ccells_one _ _ _ _)
  have O11 : pc.toArray.all (·.oneCell') = true := all_oneCell_toArray (by rw [hpc]; exact pcells_one _ _ _)
  rw [← hcc] at HLV0 HC B0 B1 RF RP0 hw0 HCL HCK HSC
  rw [← hpc] at B0 B1 RF RP0 hw0 HPL HP HPK HSP
  rw [← hcc, ← hpc]
  clear hcc hpc hs1 hlv hlc hlp hkv hkc hkp hv hn hC hP L1 L2 L3 hpz hck hpk
  have hu24 := Try.underlying24
  have hu27 := Try.underlying27
  have hu29 := Try.underlying29
  generalize hW : (w.alloc (.cells cc.toArray 27)).alloc (.cells pc.toArray 29) = W at *
  have HW := Lib.hid hW
  clear hW
  have RC := RF
  rw [← HW.out] at RC
  cases ck
  · -- the card may not be
    go_enter Try.func5, Try.ntmps5
    go_wp2_with (first
      | (refine wpList_load_g (by rfl) 27 (.tmp 3) rfl w.heap.size 0 rfl cc _ RC hu27 rfl (by rw [HCL.out]; exact info_card) ?_)
      | fail)
    rw [HW.out]
    refine (HCK.out _).mono ?_
    rintro e w1 ⟨rfl, hb⟩
    have hb1 := hw0.trans (hb.mono hw0.size)
    clear RC RF RP0 B0 B1
    go_wp2_with fail
    refine (wire_awake _).mono ?_
    rintro e w3 ⟨rfl, b3⟩
    go_wp2_with fail
    go_ret
    exact ⟨rfl, hb1.trans (b3.mono hb1.size)⟩
  · go_enter Try.func5, Try.ntmps5
    go_wp2_with (first
      | (refine wpList_load_g (by rfl) 27 (.tmp 3) rfl w.heap.size 0 rfl cc _ RC hu27 rfl (by rw [HCL.out]; exact info_card) ?_)
      | fail)
    rw [HW.out]
    refine (HCK.out _).mono ?_
    rintro e w1 ⟨rfl, hb⟩
    have hb0 := hw0.trans (hb.mono hw0.size)
    replace B0 := B0.later hb
    replace B1 := B1.later hb
    have RP := B1.wholeC
    clear RC RF RP0 HW hw0 hb
    go_wp2_with (first
      | (refine wpList_load_g (by rfl) 29 (.tmp 4) rfl (w.heap.size + 1) 0 rfl pc _ RP hu29 rfl (by rw [HPL.out]; exact info_patch) ?_)
      | fail)
    refine (HPK.out _).mono ?_
    rintro e w2 ⟨rfl, hb⟩
    have hb1 := hb0.trans (hb.mono hb0.size)
    replace B0 := B0.later hb
    replace B1 := B1.later hb
    clear RP hb hb0
    cases pz
    · by_cases h5 : n ≤ 500
      · have d5 : decide ((500 : Int) < (n : Int)) = false := by simp; omega
        obtain ⟨F1, F2, F3⟩ := HREAD2.out (by trivial) (by trivial)
        have HF1 := Lib.hid F1
        have HF2 := Lib.hid F2
        have HF3 := Lib.hid F3
        clear F1 F2 F3 HREAD2
        have HLV : Hid (∀ wx, Le w2 wx → wx.rangeAt w.heap.size 6 (vcells v)) := Lib.hid (fun wx hl => HLV0.out wx (B0.later hl))
        have HLC : Hid (∀ wx, Le w2 wx → wx.rangeAt w.heap.size 0 cc) := Lib.hid (fun wx hl => (B0.later hl).wholeC)
        have HLP : Hid (∀ wx, Le w2 wx → wx.rangeAt (w.heap.size + 1) 0 pc) := Lib.hid (fun wx hl => (B1.later hl).wholeC)
        have hs2 : Sees w2 w2.heap.size A (bvs l) := (hs.below hb1).more hb1.size
        clear hs HCK HPK
        go_wp2_with fail
        refine wp_region_tail [(29, relSee kv lv), (31, relSee kc lc), (33, relSee kp lp)] 76 8 (by kernel_rfl) (by kernel_rfl) (by kernel_rfl) (by rfl) ?_
        have HLW : Hid (∀ wx : World, Blk wx w.heap.size cc → wx.rangeAt w.heap.size 6 (vcells v)) := HLV0
        simp only [List.take_succ_cons, List.take_zero, List.drop_succ_cons, List.drop_zero]
        iterate 2 (refine wpG_quiet (by rfl) (by rfl) (by rfl) (fun K hK => ?_); go_big_quiet_op; refine hK _ ?_; clear hK K)
        refine wpG_run (by rfl) (by rfl) (.agg (vcells v).toArray) (fun w1 hl => exec_load 24 (.tmp 27) rfl w.heap.size 6 rfl (vcells v) _ (HLV.out w1 hl.1) hu24 rfl info_val) ?_
        simp only [Act.put, List.setIfInBounds_toArray, List.set_cons_zero, List.set_cons_succ]
        refine wpG_calls (relSee kv lv) (by rfl) (by rfl) 9 #[.slice none 0 0, .agg (vcells v).toArray] (by intro _; simp [go_sem]) (fun w1 hl => (HV.out w1).mono fun e w' h => gives_see M1.out.symm h) ?_
        rintro _ ⟨_, _, _, ⟨A1, c1, rfl, _⟩⟩
        simp only [Act.put, List.setIfInBounds_toArray, List.set_cons_zero, List.set_cons_succ]
        refine wpG_run (by rfl) (by rfl) (.agg cc.toArray) (fun w1 hl => exec_load 27 (.tmp 3) rfl w.heap.size 0 rfl cc _ (HLC.out w1 hl.1) hu27 rfl (by rw [HCL.out]; exact info_card)) ?_
        simp only [Act.put, List.setIfInBounds_toArray, List.set_cons_zero, List.set_cons_succ]
        refine wpG_calls (relSee kc lc) (by rfl) (by rfl) 11 #[.slice A1 kv c1, .agg cc.toArray] (by intro _; simp [go_sem]) (fun w1 hl => ?_) ?_
        · obtain ⟨A2, c2, h2, s2⟩ := hl.2 29 _ (by simp [Op.operands, Call.operands]) rfl (by intro h; cases h)
          cases h2
          exact (HC.out _ _ _ s2).mono fun e w' h => gives_see M2.out.symm h
        rintro _ ⟨_, _, _, ⟨A2, c2, rfl, _⟩⟩
        simp only [Act.put, List.setIfInBounds_toArray, List.set_cons_zero, List.set_cons_succ]
        refine wpG_run (by rfl) (by rfl) (.agg pc.toArray) (fun w1 hl => exec_load 29 (.tmp 4) rfl (w.heap.size + 1) 0 rfl pc _ (HLP.out w1 hl.1) hu29 rfl (by rw [HPL.out]; exact info_patch)) ?_
        simp only [Act.put, List.setIfInBounds_toArray, List.set_cons_zero, List.set_cons_succ]
        refine wpG_calls (relSee kp lp) (by rfl) (by rfl) 13 #[.slice A2 kc c2, .agg pc.toArray] (by intro _; simp [go_sem]) (fun w1 hl => ?_) ?_
        · obtain ⟨A3, c3, h3, s3⟩ := hl.2 31 _ (by simp [Op.operands, Call.operands]) rfl (by intro h; cases h)
          cases h3
          exact (HP.out _ _ _ s3).mono fun e w' h => gives_see M3.out.symm h
        rintro _ ⟨_, _, _, ⟨A3, c3, rfl, _⟩⟩
        simp only [Act.put, List.setIfInBounds_toArray, List.set_cons_zero, List.set_cons_succ]
        refine wpG_nil fun w3 hl hS => ?_
        obtain ⟨_, A3', c3', eq3, s3⟩ := hS
        cases eq3
        have hs3 : Sees w3 w3.heap.size A (bvs l) := (hs2.below hl).more hl.size
        replace B0 := B0.later hl
        replace B1 := B1.later hl
        have b3 := hb1.trans (hl.mono hb1.size)
        obtain ⟨i0, hi, hz0, hz1, hz2⟩ := oct_parts
        have HNP : Hid (lp.length = kp) := Lib.hid M3.out.symm
        clear hl hs2 hb1 HLV HLC HLP
        go_wp2_with (first
          | (at_builtin
             refine wpList_app _ rfl (.tmp 34) (.tmp 35) _ rfl w3.heap.size 5 i0 _ 1 Try.underlying30 hi hz0 hz1 hz2 rfl (.slice (some ⟨w3.heap.size, 0, none⟩) 0 0) [] 0 rfl rfl (own_lit w3 w3.heap.size 5 #[] (Nat.le_refl _) (by simp [maxLen])) w3.heap.size A3 c3 (bvs lp) kp rfl (by rw [bvs_length, HNP.out]) (s3.alloc (Nat.le_refl _) _) (bvs_one _) (by simp [maxLen]; omega) (by omega) (by simp) ?_
             intro A4 c4 w4 o4 b4' hg4 hat4; simp only [Nat.zero_add, List.nil_append] at o4 hat4
             have b4 : Below w3.heap.size w3 w4 := ((Below.refl _ _).alloc (Nat.le_refl _) _).trans b4'
             have hz4 := b4'.size
             simp only [World.alloc] at hz4)
          | (at_builtin
             refine wpList_app _ rfl (.tmp 36) (.tmp 37) _ rfl w3.heap.size 5 i0 _ 1 Try.underlying30 hi hz0 hz1 hz2 rfl (.slice A4 kp c4) (bvs lp) kp rfl (by rw [bvs_length, HNP.out]) o4 w3.heap.size A c (bvs l) n rfl (by rw [bvs_length, HNL.out]) ((hs3.alloc (Nat.le_refl _) _).below b4') (bvs_one _) (by simp [maxLen]; omega) (by omega) (((Below.refl _ _).alloc (Nat.le_refl _) _).trans b4').size ?_
             intro A5 c5 w5 o5 b5' hg5 hat5
             have b5 : Below w3.heap.size w3 w5 := b4.trans b5')
          | fail)
        rw [← bvs_append] at o5
        have hb35 := b3.trans (b5.mono b3.size)
        replace B0 := B0.later b5
        replace B1 := B1.later b5
        have hB15 := B1.lt
        have HLL : Hid ((lp ++ l).length = kp + n) := Lib.hid (by rw [List.length_append, HNP.out, HNL.out])
        obtain ⟨lb, hlb2⟩ : ∃ lb, lb = lp ++ l := ⟨_, rfl⟩
        rw [← hlb2] at o5 HLL HF1 HF2 HF3
        clear hlb2 s3 hs3 hi hz0 hz1 hz2 o4 b4 b4' b5' hg4 hat4 hg5 hat5 hz4 b3
        refine (rd_new A5 (kp + n) c5 lb w5 HLL.out o5.sees (by omega)).mono ?_
        rintro e w6 ⟨g, rfl, r6, b6⟩
        replace B0 := B0.later b6
        replace B1 := B1.later b6
        have hb6 := hb35.trans (b6.mono hb35.size)
        have hgb := r6.block
        have hz5 := hb35.size
        have hz6 := b6.size
        have hB1 := B1.lt
        have H1 := Lib.hid (fun wx (hx : Rd wx w5.heap.size g lb 0 0) => rd_value w5.heap.size g lb 0 0 wx hx (Nat.zero_le _) (by rw [HLL.out]; omega))
        rw [HF1.out] at H1
        have H2 := Lib.hid (fun wx (hx : Rd wx w5.heap.size g lb kv 0) => rd_card w5.heap.size g lb kv 0 wx hx (by rw [HLL.out]; omega) (by rw [HLL.out]; omega))
        rw [HF2.out] at H2
        have H3 := Lib.hid (fun wx (hx : Rd wx w5.heap.size g lb kc 0) => rd_patch w5.heap.size g lb kc 0 wx hx (by rw [HLL.out]; omega) (by rw [HLL.out]; omega))
        rw [HF3.out] at H3
        simp only at H1 H2 H3
        rw [Hcc.out] at H2
        rw [Hpc.out] at H3
        have ne0 : (some g : Option Nat) ≠ some w.heap.size := by simp; omega
        have ne1 : (some g : Option Nat) ≠ some (w.heap.size + 1) := by simp; omega
        clear HF1 HF2 HF3 o5 b5 hb35 HV HC HP HLV0
        go_wp2_with fail
        refine (H1.out _ r6).mono ?_
        rintro e w7 ⟨rfl, r7, g7⟩
        replace B0 := B0.kept g7 ne0
        replace B1 := B1.kept g7 ne1
        go_wp2_with fail
        refine (H2.out _ r7).mono ?_
        rintro e w8 ⟨rfl, r8, g8⟩
        replace B0 := B0.kept g8 ne0
        replace B1 := B1.kept g8 ne1
        go_wp2_with fail
        refine (H3.out _ r8).mono ?_
        rintro e w9 ⟨rfl, r9, g9⟩
        replace B0 := B0.kept g9 ne0
        replace B1 := B1.kept g9 ne1
        have hb9 : Below w.heap.size w w9 := below_row hb6 ((g7.trans g8).trans g9) (by omega)
        have hzz := hb9.size
        obtain ⟨zc, hzc⟩ : ∃ z, z = ccells 0 0 0 zeros := ⟨_, rfl⟩
        obtain ⟨zp, hzp⟩ : ∃ z, z = pcells 0 0 zeros := ⟨_, rfl⟩
        have HZC := Lib.hid zc27
        have HZP := Lib.hid zp26
        have LZC := Lib.hid (show zc.length = 27 by rw [hzc]; exact ccells_len 0 0 0 zeros_len)
        have LZP := Lib.hid (show zp.length = 26 by rw [hzp]; exact pcells_len 0 0 zeros_len)
        rw [← hzc] at HZC
        rw [← hzp] at HZP
        clear hzc hzp
        have d0 := Blk.new w9 (vcells zv) 24
        have d1 := Blk.new (w9.alloc (.cells (vcells zv).toArray 24)) zc 27
        have d2 := Blk.new ((w9.alloc (.cells (vcells zv).toArray 24)).alloc (.cells zc.toArray 27)) zp 29
        have s1 : (w9.alloc (.cells (vcells zv).toArray 24)).heap.size = w9.heap.size + 1 := by simp
        have s2 : ((w9.alloc (.cells (vcells zv).toArray 24)).alloc (.cells zc.toArray 27)).heap.size = w9.heap.size + 2 := by simp
        rw [s1] at d1
        rw [s2] at d2
        replace d0 := (d0.alloc (.cells zc.toArray 27)).alloc (.cells zp.toArray 29)
        replace d1 := d1.alloc (.cells zp.toArray 29)
        have LE : Le w9 (((w9.alloc (.cells (vcells zv).toArray 24)).alloc (.cells zc.toArray 27)).alloc (.cells zp.toArray 29)) := (((Below.refl w9.heap.size w9).alloc (Nat.le_refl _) _).alloc (by simp) _).alloc (by simp; omega) _
        replace B0 := B0.later LE
        replace B1 := B1.later LE
        have rA := r9.later LE
        have hbA := hb9.trans (LE.mono hzz)
        have hB0 : w.heap.size < w9.heap.size := by have := g7.size; have := g8.size; have := g9.size; omega
        have hB1' : w.heap.size + 1 < w9.heap.size := by have := g7.size; have := g8.size; have := g9.size; omega
        have hgg : g < w9.heap.size := r9.block.2
        have T0 := d0.there 0 3 (Nat.le_refl _)
        have O0 : (vcells v).toArray.all (·.oneCell') = true := vcells_all _
        obtain ⟨H, hH⟩ : ∃ H, H = w9.heap.size := ⟨_, rfl⟩
        rw [← hH] at d0 d1 d2 T0 hB0 hB1' hgg hzz
        have HH := Lib.hid hH
        generalize hWA : ((w9.alloc (.cells (vcells zv).toArray 24)).alloc (.cells zc.toArray 27)).alloc (.cells zp.toArray 29) = WA at *
        have HWA := Lib.hid hWA
        clear hH hWA LE s1 s2 hb9 r9 r8 r7 r6 g7 g8 g9 hb6 b6
        go_wp2_with (first
          | (rw [← HZC.out, ← HZP.out]
             rw [show ((w9.alloc (.cells #[Value.int .i64 0, .int .i64 0, .string { data := #[] }] 24)).alloc (.cells zc.toArray 27)).alloc (.cells zp.toArray 29) = WA from HWA.out, ← HH.out]
             refine wpList_store_mid rfl 24 (.tmp 9) (.tmp 41) rfl H 0 (vcells v).toArray rfl rfl T0 info_val O0 ?_
             simp only [Act.put]
             have e0 := d0.wholeT (ds := vcells v) rfl
             have e1 := Blk.setsOther (b := H) (g := H + 1) (by omega) (vcells v) 0 d1
             have e2 := Blk.setsOther (b := H) (g := H + 2) (by omega) (vcells v) 0 d2
             have eB0 := Blk.setsOther (b := H) (g := w.heap.size) (by omega) (vcells v) 0 B0
             have eB1 := Blk.setsOther (b := H) (g := w.heap.size + 1) (by omega) (vcells v) 0 B1
             have er := rA.other (grown_sets4 H (vcells v) 0 WA) (by omega)
             have eb := below_sets hzz (vcells v) 0 hbA
             generalize hwa : World.setCells WA H 0 (vcells v).toArray.toList = wa
             replace e0 : Blk wa H (vcells v) := hwa ▸ e0
             replace e1 : Blk wa (H + 1) zc := hwa ▸ e1
             replace e2 : Blk wa (H + 2) zp := hwa ▸ e2
             replace eB0 : Blk wa w.heap.size cc := hwa ▸ eB0
             replace eB1 : Blk wa (w.heap.size + 1) pc := hwa ▸ eB1
             replace er : Rd wa w5.heap.size g lb kp 0 := hwa ▸ er
             replace eb : Below w.heap.size w wa := hwa ▸ eb
             clear hwa d0 d1 d2 B0 B1 rA hbA T0 O0
             have T1 := e1.there 0 27 (by rw [LZC.out]; omega))
          | (refine wpList_store_mid rfl 27 (.tmp 10) (.tmp 43) rfl (H + 1) 0 cc.toArray rfl rfl (by simpa [HCL.out] using T1) (by simpa [HCL.out] using info_card) O10 ?_
             simp only [Act.put]
             have f0 := Blk.setsOther (b := H + 1) (g := H) (by omega) cc 0 e0
             have f1 := e1.wholeT (ds := cc) (by rw [HCL.out, LZC.out])
             have f2 := Blk.setsOther (b := H + 1) (g := H + 2) (by omega) cc 0 e2
             have fB0 := Blk.setsOther (b := H + 1) (g := w.heap.size) (by omega) cc 0 eB0
             have fB1 := Blk.setsOther (b := H + 1) (g := w.heap.size + 1) (by omega) cc 0 eB1
             have fr := er.other (grown_sets4 (H + 1) cc 0 wa) (by omega)
             have fb := below_sets (B := w.heap.size) (b := H + 1) (by omega) cc 0 eb
             generalize hwb : World.setCells wa (H + 1) 0 cc.toArray.toList = wb
             replace f0 : Blk wb H (vcells v) := hwb ▸ f0
             replace f1 : Blk wb (H + 1) cc := hwb ▸ f1
             replace f2 : Blk wb (H + 2) zp := hwb ▸ f2
             replace fB0 : Blk wb w.heap.size cc := hwb ▸ fB0
             replace fB1 : Blk wb (w.heap.size + 1) pc := hwb ▸ fB1
             replace fr : Rd wb w5.heap.size g lb kp 0 := hwb ▸ fr
             replace fb : Below w.heap.size w wb := hwb ▸ fb
             clear hwb e0 e1 e2 eB0 eB1 er eb T1
             have T2 := f2.there 0 26 (by rw [LZP.out]; omega))
          | (refine wpList_store_mid rfl 29 (.tmp 11) (.tmp 45) rfl (H + 2) 0 pc.toArray rfl rfl (by simpa [HPL.out] using T2) (by simpa [HPL.out] using info_patch) O11 ?_
             simp only [Act.put]
             have i0 := Blk.setsOther (b := H + 2) (g := H) (by omega) pc 0 f0
             have i1 := Blk.setsOther (b := H + 2) (g := H + 1) (by omega) pc 0 f1
             have i2 := f2.wholeT (ds := pc) (by rw [HPL.out, LZP.out])
             have iB0 := Blk.setsOther (b := H + 2) (g := w.heap.size) (by omega) pc 0 fB0
             have iB1 := Blk.setsOther (b := H + 2) (g := w.heap.size + 1) (by omega) pc 0 fB1
             have ir := fr.other (grown_sets4 (H + 2) pc 0 wb) (by omega)
             have ib := below_sets (B := w.heap.size) (b := H + 2) (by omega) pc 0 fb
             generalize hwc : World.setCells wb (H + 2) 0 pc.toArray.toList = wc
             replace i0 : Blk wc H (vcells v) := hwc ▸ i0
             replace i1 : Blk wc (H + 1) cc := hwc ▸ i1
             replace i2 : Blk wc (H + 2) pc := hwc ▸ i2
             replace iB0 : Blk wc w.heap.size cc := hwc ▸ iB0
             replace iB1 : Blk wc (w.heap.size + 1) pc := hwc ▸ iB1
             replace ir : Rd wc w5.heap.size g lb kp 0 := hwc ▸ ir
             replace ib : Below w.heap.size w wc := hwc ▸ ib
             clear hwc f0 f1 f2 fB0 fB1 fr fb T2
             have RA := i0.range 0 (vcells v) (by rw [List.drop_zero, List.take_length])
             have RB := HLW.out wc iB0
             have RCC := i1.wholeC
             have RC0 := iB0.wholeC
             have RPP := i2.wholeC
             have RP0 := iB1.wholeC)
          | (refine wpList_load_g (by rfl) 24 (.tmp 9) rfl H 0 rfl (vcells v) _ RA hu24 rfl info_val ?_)
          | (refine wpList_load_g (by rfl) 24 (.tmp 48) rfl w.heap.size 6 rfl (vcells v) _ RB hu24 rfl info_val ?_)
          | (refine wpList_exec (by rfl) (.bool true) (exec_eql 24 _ (.tmp 46) (.tmp 49) rfl _ _ rfl rfl guard_val true (same_v v _)) ?_)
          | (refine wpList_load_g (by rfl) 27 (.tmp 10) rfl (H + 1) 0 rfl cc _ RCC hu27 rfl (by rw [HCL.out]; exact info_card) ?_)
          | (refine wpList_load_g (by rfl) 27 (.tmp 3) rfl w.heap.size 0 rfl cc _ RC0 hu27 rfl (by rw [HCL.out]; exact info_card) ?_)
          | (refine wpList_exec (by rfl) (.bool true) (exec_eql 27 _ (.tmp 52) (.tmp 53) rfl _ _ rfl rfl guard_card true (HSC.out _)) ?_)
          | (refine wpList_load_g (by rfl) 29 (.tmp 11) rfl (H + 2) 0 rfl pc _ RPP hu29 rfl (by rw [HPL.out]; exact info_patch) ?_)
          | (refine wpList_load_g (by rfl) 29 (.tmp 4) rfl (w.heap.size + 1) 0 rfl pc _ RP0 hu29 rfl (by rw [HPL.out]; exact info_patch) ?_)
          | (refine wpList_exec (by rfl) (.bool true) (exec_eql 29 _ (.tmp 57) (.tmp 58) rfl _ _ rfl rfl guard_patch true (HSP.out _)) ?_)
          | fail)
        refine (rd_err w5.heap.size g lb kp 0 wc ir).mono ?_
        rintro e wd ⟨rfl, rfl⟩
        go_wp2_with fail
        refine (rd_left w5.heap.size g lb kp 0 wc ir (by rw [HLL.out]; omega) (by rw [HLL.out]; omega)).mono ?_
        rintro e wd ⟨rfl, nk, rfl⟩
        rw [show ((lb.length : Nat) : Int) - (kp : Int) = (n : Int) from by rw [HLL.out]; omega]
        go_wp2_with fail
        refine (wire_awake _).mono ?_
        rintro e we ⟨rfl, be⟩
        go_wp2_with fail
        go_ret
        exact ⟨rfl, (below_drewN ib nk).trans (be.mono ib.size)⟩
      · have d5 : decide ((500 : Int) < (n : Int)) = true := by simp; omega
        go_wp2_with fail
        refine (wire_awake _).mono ?_
        rintro e w3 ⟨rfl, b3⟩
        go_wp2_with fail
        go_ret
        exact ⟨rfl, hb1.trans (b3.mono hb1.size)⟩
    · go_wp2_with fail
      refine (wire_awake _).mono ?_
      rintro e w3 ⟨rfl, b3⟩
      go_wp2_with fail
      go_ret
      exact ⟨rfl, hb1.trans (b3.mono hb1.size)⟩
end Go.Proofs.Yticdpfjajkfheaa

/- What the frame gives of a value, of fields, of a card, of a patch. -/
namespace Go.Proofs.Yticdpfjajkfheaa
set_option linter.unusedVariables false
open Go Go.RowKit BitM

section
variable {H : Type} {enc : TypeId × Value → H} {W : World}

theorem list3 {α : Type} {l : List α} {a b c : α} (hl : l.length = 3) (h0 : (l.drop 0).take 1 = [a]) (h1 : (l.drop 1).take 1 = [b]) (h2 : (l.drop 2).take 1 = [c]) : l = [a, b, c] := by
  match l, hl with
  | [x, y, z], _ => simp at h0 h1 h2; rw [h0, h1, h2]
/-- What a number, a text in an input is. -/
def okV (v : V3) : Prop := (-9223372036854775808 ≤ v.1 ∧ v.1 ≤ 9223372036854775807) ∧ (-9223372036854775808 ≤ v.2.1 ∧ v.2.1 ≤ 9223372036854775807) ∧ v.2.2.size ≤ maxLen
theorem trod_val {sp : Nat → Bool} {held : Bool} {n : Nat} {cs : List Value} {x : DataW H × List MemPlace} (h : DataW.trod enc Try.prog W 0 sp held n 24 cs = some x) : ∃ v : V3, cs = vcells v ∧ okV v := by
  obtain ⟨y0, y1, y2, m, _, hl, h0, h1, h2⟩ := Go.Deep.trod_struct3 Try.underlying24 h
  have c1 : Try.prog.cellsOf 3 = 1 := by kernel_rfl
  have c2 : Try.prog.cellsOf 9 = 1 := by kernel_rfl
  have c3 : Try.prog.cellsOf 24 = 3 := by kernel_rfl
  rw [c3] at hl
  simp only [c1] at h0 h1
  simp only [c2] at h2
  obtain ⟨a, e0, _, w0⟩ := DataW.trod_int Try.underlying3 h0
  obtain ⟨b, e1, _, w1⟩ := DataW.trod_int Try.underlying3 h1
  obtain ⟨s, e2, _, w2⟩ := DataW.trod_string Try.underlying9 h2
  exact ⟨(a, b, s), list3 hl e0 e1 e2, i64_wf w0, i64_wf w1, w2⟩
theorem cut3 : ∀ (l : List Value) (n : Nat), l.length = n * 3 → (∀ i, i < n → ∃ v : V3, (l.drop (i * 3)).take 3 = vcells v ∧ okV v) → ∃ f : List V3, l = fcells f ∧ f.length = n ∧ ∀ v ∈ f, okV v
  | l, 0, hl, _ => ⟨[], List.length_eq_zero_iff.1 (by rw [hl]), rfl, by simp⟩
  | l, n + 1, hl, h => by
    obtain ⟨v, hv, ok⟩ := h 0 (by omega)
    obtain ⟨f, hf, hn, hok⟩ := cut3 (l.drop 3) n (by rw [List.length_drop, hl]; omega) (fun i hi => by
      have := h (i + 1) (by omega)
      rw [List.drop_drop, show 3 + i * 3 = (i + 1) * 3 by omega]
      exact this)
    refine ⟨v :: f, ?_, by simp [hn], ?_⟩
    · rw [fcells_cons, ← hf, ← hv]
      simp
    · intro u hu
      rcases List.mem_cons.1 hu with rfl | hu
      · exact ok
      · exact hok u hu
theorem trod_fields {sp : Nat → Bool} {held : Bool} {n : Nat} {cs : List Value} {x : DataW H × List MemPlace} (h : DataW.trod enc Try.prog W 0 sp held n 25 cs = some x) : ∃ f : List V3, cs = fcells f ∧ f.length = 8 ∧ ∀ v ∈ f, okV v := by
  obtain ⟨xs, m, _, _, hl, hxl, heach⟩ := DataW.trod_array Try.underlying25 h
  have c3 : Try.prog.cellsOf 24 = 3 := by kernel_rfl
  have c8 : Try.prog.cellsOf 25 = 24 := by kernel_rfl
  rw [c8] at hl
  simp only [c3] at heach
  refine cut3 cs 8 hl fun i hi => ?_
  have h1 := heach i hi
  rw [List.getElem?_eq_getElem (by rw [hxl]; exact hi)] at h1
  exact trod_val h1
theorem open_card {r : Reach} {base : Nat} {v : Value} {d : DataW H} {ps : List MemPlace}
    (hv : Value.okWide Try.prog W r base 27 v) (h : DataW.Trod enc Try.prog W 0 (fun _ => true) true 27 v d ps) :
    ∃ (id ver : Int) (lab : BitVec 32) (f : List V3), v = .agg (ccells id ver (lab.toNat : Int) f).toArray ∧ f.length = 8 ∧ (∀ v ∈ f, okV v) ∧ (-9223372036854775808 ≤ id ∧ id ≤ 9223372036854775807) ∧ (-9223372036854775808 ≤ ver ∧ ver ≤ 9223372036854775807) := by
  simp only [Value.okWide, Try.underlying27] at hv
  obtain ⟨cs, rfl, hrest⟩ := hv
  obtain ⟨fuel, hf⟩ := h
  obtain ⟨y0, y1, y2, y3, m, _, hl, h0, h1, h2, h3⟩ := Go.Joins.trod_struct4 Try.underlying27 hf
  have c1 : Try.prog.cellsOf 3 = 1 := by kernel_rfl
  have c2 : Try.prog.cellsOf 22 = 1 := by kernel_rfl
  have c8 : Try.prog.cellsOf 25 = 24 := by kernel_rfl
  have c27 : Try.prog.cellsOf 27 = 27 := by kernel_rfl
  rw [c27] at hl
  simp only [c1, Value.cells] at h0 h1
  simp only [c2, Value.cells] at h2
  simp only [c8, Value.cells] at h3
  simp only [Value.cells] at hl
  obtain ⟨a, e0, _, w0⟩ := DataW.trod_int Try.underlying3 h0
  obtain ⟨b, e1, _, w1⟩ := DataW.trod_int Try.underlying3 h1
  obtain ⟨c, e2, _, w2⟩ := DataW.trod_int Try.underlying22 h2
  obtain ⟨f, e3, hf8, hok⟩ := trod_fields h3
  obtain ⟨x, rfl⟩ := u32_wf w2
  refine ⟨a, b, x, f, ?_, hf8, hok, i64_wf w0, i64_wf w1⟩
  congr 1
  apply Array.toList_inj.1
  have e4 : cs.toList.take 3 = [.int .i64 a, .int .i64 b, .int .u32 (x.toNat : Int)] := list3 (by rw [List.length_take, hl]; rfl) (by simpa [List.take_take, List.drop_take] using e0) (by simpa [List.take_take, List.drop_take] using e1) (by simpa [List.take_take, List.drop_take] using e2)
  rw [← List.take_append_drop 3 cs.toList, e4]
  unfold ccells
  rw [← e3, List.take_of_length_le (by rw [List.length_drop, hl]; omega)]
theorem list2 {α : Type} {l : List α} {a b : α} (hl : l.length = 2) (h0 : (l.drop 0).take 1 = [a]) (h1 : (l.drop 1).take 1 = [b]) : l = [a, b] := by
  match l, hl with
  | [x, y], _ => simp at h0 h1; rw [h0, h1]
theorem open_patch {r : Reach} {base : Nat} {v : Value} {d : DataW H} {ps : List MemPlace}
    (hv : Value.okWide Try.prog W r base 29 v) (h : DataW.Trod enc Try.prog W 0 (fun _ => true) true 29 v d ps) :
    ∃ (m lab : BitVec 32) (f : List V3), v = .agg (pcells (m.toNat : Int) (lab.toNat : Int) f).toArray ∧ f.length = 8 ∧ (∀ v ∈ f, okV v) := by
  simp only [Value.okWide, Try.underlying29] at hv
  obtain ⟨cs, rfl, hrest⟩ := hv
  obtain ⟨fuel, hf⟩ := h
  obtain ⟨y0, y1, y2, m, _, hl, h0, h1, h2⟩ := Go.Deep.trod_struct3 Try.underlying29 hf
  have c2 : Try.prog.cellsOf 22 = 1 := by kernel_rfl
  have c8 : Try.prog.cellsOf 25 = 24 := by kernel_rfl
  have c26 : Try.prog.cellsOf 29 = 26 := by kernel_rfl
  rw [c26] at hl
  simp only [c2, Value.cells] at h0 h1
  simp only [c8, Value.cells] at h2
  simp only [Value.cells] at hl
  obtain ⟨a, e0, _, w0⟩ := DataW.trod_int Try.underlying22 h0
  obtain ⟨b, e1, _, w1⟩ := DataW.trod_int Try.underlying22 h1
  obtain ⟨f, e3, hf8, hok⟩ := trod_fields h2
  obtain ⟨x, rfl⟩ := u32_wf w0
  obtain ⟨y, rfl⟩ := u32_wf w1
  refine ⟨x, y, f, ?_, hf8, hok⟩
  congr 1
  apply Array.toList_inj.1
  have e4 : cs.toList.take 2 = [.int .u32 (x.toNat : Int), .int .u32 (y.toNat : Int)] := list2 (by rw [List.length_take, hl]; rfl) (by simpa [List.take_take, List.drop_take] using e0) (by simpa [List.take_take, List.drop_take] using e1)
  rw [← List.take_append_drop 2 cs.toList, e4]
  unfold pcells
  rw [← e3, List.take_of_length_le (by rw [List.length_drop, hl]; omega)]
end
end Go.Proofs.Yticdpfjajkfheaa
