/- The document's Show. -/
import Derived.Test.YtjlpccdlpgkgoaaQeN
import Derived.Test.YtjlpccdlpgkgoaaCardO
namespace Go.Proofs.Ytjlpccdlpgkgoaa
set_option linter.unusedVariables false
set_option linter.unusedSimpArgs false
open Go Go.RowKit Go.Shelf BitM

theorem shStep_snd (s t : Int × BitVec 32 × List V3) (x : Wr) (h : s.2 = t.2) : (shStep s x).2 = (shStep t x).2 := by unfold shStep; rw [h]
/-- What stands while the document merges. -/
structure RI (w : World) (ver : Int) (id : Int) (cc : List Value) (p : BitVec 32 × List V3) (W : World) : Prop where
  bc : Blk W w.heap.size cc
  br : Blk W (w.heap.size + 1) (ccells 0 0 0 zeros)
  bo : Blk W (w.heap.size + 2) (shc id (ver, p))
  be : Below w.heap.size w W
theorem RI.later {w : World} {ver id : Int} {cc : List Value} {p : BitVec 32 × List V3} {X Y : World} (h : RI w ver id cc p X) (hb : Le X Y) : RI w ver id cc p Y :=
  ⟨h.bc.later hb, h.br.later hb, h.bo.later hb, h.be.trans (Below.mono hb h.be.size)⟩
/-- The card is merged, and its version is what it was. -/
theorem RI.put {w : World} {ver v' id : Int} {cc : List Value} {p p' : BitVec 32 × List V3} {X : World} (h : RI w ver id cc p X) (h8 : p.2.length = 8) (h8' : p'.2.length = 8) : RI w v' id cc p' (X.setCells (w.heap.size + 2) 0 (shc id (v', p'))) := by
  have hl : (shc id (v', p')).length = (shc id (ver, p)).length := by
    unfold shc
    rw [ccells_len _ _ _ h8, ccells_len _ _ _ h8']
  have hg := grown_sets (w.heap.size + 2) (shc id (v', p')) 0 X
  exact ⟨h.bc.kept hg (by intro e; injection e with e; omega), h.br.kept hg (by intro e; injection e with e; omega), h.bo.whole hl, h.be.grown hg h.be.size (fun k e => by injection e with e; omega)⟩
theorem RI.ver {w : World} {ver v' id : Int} {cc : List Value} {p : BitVec 32 × List V3} {X : World} (h : RI w v' id cc p X) : RI w ver id cc p (X.setCell ⟨w.heap.size + 2, 1, none⟩ (.int .i64 ver)) :=
  ⟨h.bc.setOther 1 _ (by omega), h.br.setOther 1 _ (by omega), h.bo.set 1 (.int .i64 ver), h.be.setCell (p := ⟨w.heap.size + 2, 1, none⟩) (by show w.heap.size ≤ w.heap.size + 2; omega) _⟩
set_option maxRecDepth 100000 in
set_option maxHeartbeats 8000000 in
theorem rshow_any (A : Option Addr) (n c : Nat) (l : List Wr) (id ver : Int) (lab : BitVec 32) (cf : List V3) (w : World) (hcf : cf.length = 8) (hv : 0 ≤ ver) (hv1 : ver ≤ 1099511627776) (hn : l.length = n) (hw : Whole l) (hs : Sees w w.heap.size A (wrs l)) (hm : n ≤ 65536) :
    Calls Try.prog 16 #[.agg (ccells id ver (lab.toNat : Int) cf).toArray, .slice A n c] w fun e w' => e = .returned (.agg (shc id (ver, (shv (ver, lab, cf) (mine id l)).2)).toArray) ∧ Below w.heap.size w w' := by
  have hu := Try.underlying63
  have huc := Try.underlying32
  have hup := Try.underlying34
  have HS := Lib.hid (fun wx (h : Below w.heap.size w wx) => sees_wr (hs.below h) hw)
  have HN := Lib.hid hn
  have HW := Lib.hid hw
  have HOK := Lib.hid (fun pre => (shv_ok (s := (ver, lab, cf)) hcf hv pre).1)
  obtain ⟨s0, hs0⟩ : ∃ s0, s0 = shv (ver, lab, cf) := ⟨_, rfl⟩
  have HST : Hid (∀ pre y, (s0 (pre ++ [y])).2 = (shStep (ver, (s0 pre).2) y).2) := Lib.hid (fun pre y => by rw [hs0, shv_snoc]; exact shStep_snd _ _ _ rfl)
  have HS0 : Hid ((s0 []).2 = (lab, cf)) := Lib.hid (by rw [hs0]; rfl)
  rw [← hs0] at HOK ⊢
  have BI0 : RI w ver id (ccells id ver (lab.toNat : Int) cf) (lab, cf) ((((w.alloc (.cells (ccells id ver (lab.toNat : Int) cf).toArray 32)).alloc (.cells (ccells 0 0 0 zeros).toArray 32)).alloc (.cells (ccells 0 0 0 zeros).toArray 32)).setCells (w.heap.size + 2) 0 (ccells id ver (lab.toNat : Int) cf)) := by
    have b0 := ((Blk.new w (ccells id ver (lab.toNat : Int) cf) 32).alloc (.cells (ccells 0 0 0 zeros).toArray 32)).alloc (.cells (ccells 0 0 0 zeros).toArray 32)
    have b1 := (Blk.new (w.alloc (.cells (ccells id ver (lab.toNat : Int) cf).toArray 32)) (ccells 0 0 0 zeros) 32).alloc (.cells (ccells 0 0 0 zeros).toArray 32)
    have b2 := Blk.new ((w.alloc (.cells (ccells id ver (lab.toNat : Int) cf).toArray 32)).alloc (.cells (ccells 0 0 0 zeros).toArray 32)) (ccells 0 0 0 zeros) 32
    rw [show (w.alloc (.cells (ccells id ver (lab.toNat : Int) cf).toArray 32)).heap.size = w.heap.size + 1 by simp] at b1
    rw [show ((w.alloc (.cells (ccells id ver (lab.toNat : Int) cf).toArray 32)).alloc (.cells (ccells 0 0 0 zeros).toArray 32)).heap.size = w.heap.size + 2 by simp] at b2
    have hb := (((Below.refl w.heap.size w).alloc (Nat.le_refl _) (.cells (ccells id ver (lab.toNat : Int) cf).toArray 32)).alloc (by simp) (.cells (ccells 0 0 0 zeros).toArray 32)).alloc (by simp; omega) (.cells (ccells 0 0 0 zeros).toArray 32)
    have hg := grown_sets (w.heap.size + 2) (ccells id ver (lab.toNat : Int) cf) 0 (((w.alloc (.cells (ccells id ver (lab.toNat : Int) cf).toArray 32)).alloc (.cells (ccells 0 0 0 zeros).toArray 32)).alloc (.cells (ccells 0 0 0 zeros).toArray 32))
    exact ⟨b0.kept hg (by intro e; injection e with e; omega), b1.kept hg (by intro e; injection e with e; omega), b2.whole (by rw [ccells_len _ _ _ hcf, ccells_len _ _ _ zeros_len]), hb.grown hg hb.size (fun k e => by injection e with e; omega)⟩
  have TH0 : (((w.alloc (.cells (ccells id ver (lab.toNat : Int) cf).toArray 32)).alloc (.cells (ccells 0 0 0 zeros).toArray 32)).alloc (.cells (ccells 0 0 0 zeros).toArray 32)).there (w.heap.size + 2) 0 27 := by
    have b2 := Blk.new ((w.alloc (.cells (ccells id ver (lab.toNat : Int) cf).toArray 32)).alloc (.cells (ccells 0 0 0 zeros).toArray 32)) (ccells 0 0 0 zeros) 32
    rw [show ((w.alloc (.cells (ccells id ver (lab.toNat : Int) cf).toArray 32)).alloc (.cells (ccells 0 0 0 zeros).toArray 32)).heap.size = w.heap.size + 2 by simp] at b2
    exact b2.there 0 27 (by rw [ccells_len 0 0 0 zeros_len]; omega)
  have B0 := (Blk.new w (ccells id ver (lab.toNat : Int) cf) 32).alloc (.cells (ccells 0 0 0 zeros).toArray 32)
  have rc := B0.range 0 (ccells id ver (lab.toNat : Int) cf) (by rw [List.drop_zero, List.take_length])
  have HC27 := Lib.hid (ccells_len id ver (lab.toNat : Int) hcf)
  have HONE : Hid (∀ v ∈ (ccells id ver (lab.toNat : Int) cf), v.oneCell' = true) := Lib.hid (ccells_one _ _ _ _)
  have HCCELL := Lib.hid (fun wx (h : Blk wx w.heap.size (ccells id ver (lab.toNat : Int) cf)) => card_cell h)
  obtain ⟨cc, hcc⟩ : ∃ cc, cc = (ccells id ver (lab.toNat : Int) cf) := ⟨_, rfl⟩
  rw [← hcc] at BI0 TH0 rc HC27 HONE HCCELL ⊢
  rw [zc27] at BI0 TH0 rc
  have h27 : cc.toArray.size = 27 := (List.size_toArray).trans HC27.out
  have HI0 := Lib.hid BI0
  clear hn hw hs hcf hcc hs0 B0 BI0
  go_enter Try.func16, Try.ntmps16
  go_wp2_with (first
    | (refine wpList_load_mid rfl 32 (.tmp 2) rfl w.heap.size 0 rfl cc _ rc huc rfl (by rw [HC27.out]; exact info_card) ?_
       clear rc)
    | (refine wpList_store_mid rfl 32 (.tmp 5) (.tmp 7) rfl (w.heap.size + 2) 0 cc.toArray rfl rfl (by rw [h27]; exact TH0) (by rw [h27]; exact info_card) (all_oneCell_toArray HONE.out) ?_
       simp only [Act.put]
       generalize hw0 : World.setCells _ (w.heap.size + 2) 0 cc.toArray.toList = w0
       have I0 : Hid (RI w ver id cc (lab, cf) w0) := Lib.hid (hw0 ▸ HI0.out)
       clear hw0 TH0 HI0)
    | fail)
  go_loopw [6] (fun i wr => ∃ k : Nat, k ≤ n ∧ i = .int .i64 k ∧ Hid (RI w ver id cc (s0 (mine id (l.take k))).2 wr)) (fun i _ => n - (intOf i).toNat)
  case atStart => exact ⟨0, Nat.zero_le _, rfl, Lib.hid (by have h := I0.out; rw [← HS0.out] at h; exact h)⟩
  case round =>
    obtain ⟨k, hk, rfl, HI⟩ := hrel
    clear I0
    by_cases hlt : k < n
    · have d1 : decide ((k : Int) < (n : Int)) = true := by simp; omega
      have hki : (k : Int) < (n : Int) := by omega
      have hkl : k < l.length := by rw [HN.out]; exact hlt
      obtain ⟨b, o, rfl, _, _, _, _⟩ := HS.out wr HI.out.be k hkl
      have HAT := Lib.hid (fun wx (h : Below w.heap.size w wx) => (show wx.rangeAt b (o + k * 28 + 2) (pcells (l[k].2.2.1.toNat : Int) (l[k].2.2.2.1.toNat : Int) l[k].2.2.2.2) ∧ wx.cell? ⟨b, o + k * 28, none⟩ = some (.int .i64 l[k].1) from by
        obtain ⟨b3, o3, e3, _, h1, h2, h3⟩ := HS.out wx h k hkl
        injection e3 with e3
        injection e3 with e3 e4
        subst e3
        subst e4
        exact ⟨wr_patch h1, h2⟩))
      have hyw := HW.out _ (List.getElem_mem hkl)
      have HMS := Lib.hid (mine_succ id l k hkl)
      obtain ⟨y, hy⟩ : ∃ y, y = l[k] := ⟨_, rfl⟩
      rw [← hy] at HAT hyw HMS
      have HPL := Lib.hid (pcells_len (y.2.2.1.toNat : Int) (y.2.2.2.1.toNat : Int) hyw)
      have h8 := HOK.out (mine id (l.take k))
      have h8' := HOK.out (mine id (l.take k) ++ [y])
      have HCL := Lib.hid (show (shc id (ver, (s0 (mine id (l.take k))).2)).length = 27 from ccells_len _ _ _ h8)
      have HMG : Hid (∀ wx, Calls Try.prog 25 #[.agg (shc id (ver, (s0 (mine id (l.take k))).2)).toArray, .agg (pcells (y.2.2.1.toNat : Int) (y.2.2.2.1.toNat : Int) y.2.2.2.2).toArray] wx fun e w' => e = .returned (.agg (shc id (nextVer ver, (s0 (mine id (l.take k) ++ [y])).2)).toArray) ∧ Below wx.heap.size wx w') := Lib.hid (fun wx => by
        have h := rmerge_any id ver ((s0 (mine id (l.take k))).2.1.toNat : Int) (y.2.2.2.1.toNat : Int) y.2.2.1 (s0 (mine id (l.take k))).2.2 y.2.2.2.2 wx h8 hyw hv hv1
        have e : (if has y.2.2.1 8 then (y.2.2.2.1.toNat : Int) else ((s0 (mine id (l.take k))).2.1.toNat : Int)) = ((if has y.2.2.1 8 then y.2.2.2.1 else (s0 (mine id (l.take k))).2.1).toNat : Int) := by
          cases has y.2.2.1 8 <;> rfl
        rw [e] at h
        rw [HST.out]
        exact h)
      have HPUT := Lib.hid (fun W' (h : RI w ver id cc (s0 (mine id (l.take k))).2 W') => h.put (v' := nextVer ver) (p' := (s0 (mine id (l.take k) ++ [y])).2) h8 h8')
      have hone : ∀ v ∈ shc id (nextVer ver, (s0 (mine id (l.take k) ++ [y])).2), v.oneCell' = true := ccells_one _ _ _ _
      have HC2 := Lib.hid (show (shc id (nextVer ver, (s0 (mine id (l.take k) ++ [y])).2)).length = 27 from ccells_len _ _ _ h8')
      have HTH := Lib.hid (fun W' (h : RI w ver id cc (s0 (mine id (l.take k))).2 W') => h.bo.there 0 27 (by rw [HCL.out]; omega))
      have HRG := Lib.hid (fun W' (h : RI w ver id cc (s0 (mine id (l.take k))).2 W') => h.bo.range 0 (shc id (ver, (s0 (mine id (l.take k))).2)) (by rw [List.drop_zero, List.take_length]))
      obtain ⟨cs, hcs⟩ : ∃ cs, cs = shc id (ver, (s0 (mine id (l.take k))).2) := ⟨_, rfl⟩
      rw [← hcs] at HCL HMG HRG
      obtain ⟨ds, hds⟩ : ∃ ds, ds = shc id (nextVer ver, (s0 (mine id (l.take k) ++ [y])).2) := ⟨_, rfl⟩
      rw [← hds] at HC2 HMG HPUT hone
      obtain ⟨pc, hpc⟩ : ∃ pc, pc = pcells (y.2.2.1.toNat : Int) (y.2.2.2.1.toNat : Int) y.2.2.2.2 := ⟨_, rfl⟩
      rw [← hpc] at HAT HPL HMG
      have h27d : ds.toArray.size = 27 := (List.size_toArray).trans HC2.out
      clear hy hyw h8 h8' hcs hds hpc
      go_wp2_with fail
      refine wp_region_steady [] 33 (by kernel_rfl) (by kernel_rfl) (by kernel_rfl) (by rfl) ?_
      repeat (refine wpG_quiet (by rfl) (by rfl) (by rfl) (fun K hK => ?_); go_big_quiet_op; refine hK _ ?_; clear hK K)
      refine wpG_run (by rfl) (by rfl) (.int .i64 y.1) (fun wx hl => ?_) ?_
      · have kc := (HAT.out wx (HI.out.be.trans (hl.1.mono HI.out.be.size))).2
        simp [go_sem, kc]
      simp only [Act.put, List.setIfInBounds_toArray, List.set_cons_zero, List.set_cons_succ]
      repeat (refine wpG_quiet (by rfl) (by rfl) (by rfl) (fun K hK => ?_); go_big_quiet_op; refine hK _ ?_; clear hK K)
      refine wpG_run (by rfl) (by rfl) (.int .i64 id) (fun wx hl => ?_) ?_
      · have kc := (HCCELL.out wx (HI.out.bc.later hl.1)).1
        simp [go_sem, kc]
      simp only [Act.put, List.setIfInBounds_toArray, List.set_cons_zero, List.set_cons_succ]
      repeat (refine wpG_quiet (by rfl) (by rfl) (by rfl) (fun K hK => ?_); go_big_quiet_op; refine hK _ ?_; clear hK K)
      refine wpG_nil fun w5 hl hS => ?_
      have HI5 := Lib.hid (HI.out.later hl)
      clear hl hS
      by_cases hid : y.1 = id
      · have bid : (y.1 == id) = true := by simpa using hid
        rw [if_pos hid] at HMS
        go_wp2_with fail
        refine wp_region_tail [] 33 7 (by kernel_rfl) (by kernel_rfl) (by kernel_rfl) (by rfl) ?_
        simp only [List.take_succ_cons, List.take_zero, List.drop_succ_cons, List.drop_zero]
        refine wpG_run (by rfl) (by rfl) (.agg cs.toArray) (fun wx hl => exec_load 32 (.tmp 5) rfl (w.heap.size + 2) 0 rfl cs _ (HRG.out wx (HI5.out.later hl.1)) huc rfl (by rw [HCL.out]; exact info_card)) ?_
        simp only [Act.put, List.setIfInBounds_toArray, List.set_cons_zero, List.set_cons_succ]
        repeat (refine wpG_quiet (by rfl) (by rfl) (by rfl) (fun K hK => ?_); go_big_quiet_op; refine hK _ ?_; clear hK K)
        refine wpG_run (by rfl) (by rfl) (.agg pc.toArray) (fun wx hl => exec_load 34 (.tmp 26) rfl b (o + k * 28 + 2) rfl pc _ (HAT.out wx (HI5.out.be.trans (hl.1.mono HI5.out.be.size))).1 hup rfl (by rw [HPL.out]; exact info_patch)) ?_
        simp only [Act.put, List.setIfInBounds_toArray, List.set_cons_zero, List.set_cons_succ]
        refine wpG_call (by rfl) (by rfl) 25 #[.agg cs.toArray, .agg pc.toArray] (.agg ds.toArray) (by intro _; simp [go_sem]) (by kernel_rfl) (fun wx hl => HMG.out wx) ?_
        simp only [Act.put, List.setIfInBounds_toArray, List.set_cons_zero, List.set_cons_succ]
        refine wpG_nil fun w6 hl hS => ?_
        have HI6 := HI5.out.later hl
        have TH := HTH.out _ HI6
        have HI7 := HPUT.out _ HI6
        have HI8 := Lib.hid (HI7.ver (ver := ver))
        have hc := (HCCELL.out _ HI7.bc).2
        have k1 := HI7.bo.cell (j := 1) rfl
        have f1 := HI7.bo.frozen 1
        clear hl hS HI6 HI7
        refine wpList_store_mid rfl 32 (.tmp 5) (.tmp 28) rfl (w.heap.size + 2) 0 ds.toArray rfl rfl (by rw [h27d]; exact TH) (by rw [h27d]; exact info_card) (all_oneCell_toArray hone) ?_
        simp only [Act.put]
        clear TH
        generalize World.setCells _ (w.heap.size + 2) 0 ds = w7 at HI8 hc k1 f1 ⊢
        go_wp2_with fail
        go_roundw
        case rel => exact ⟨k + 1, by omega, by go_num, Lib.hid (by rw [HMS.out]; exact HI8.out)⟩
        case measure => simp [intOf]; omega
      · have bid : (y.1 == id) = false := by simpa using hid
        rw [if_neg hid] at HMS
        go_wp2_with fail
        go_roundw
        case rel => exact ⟨k + 1, by omega, by go_num, Lib.hid (by rw [HMS.out]; exact HI5.out)⟩
        case measure => simp [intOf]; omega
    · obtain rfl : k = n := by omega
      have d1 : decide ((k : Int) < (k : Int)) = false := by simp
      have ht : l.take k = l := List.take_of_length_le (by rw [HN.out]; exact Nat.le_refl _)
      rw [ht] at HI
      have HDL : Hid ((shc id (ver, (s0 (mine id l)).2)).length = 27) := Lib.hid (ccells_len _ _ _ (HOK.out _))
      have hone : ∀ v ∈ shc id (ver, (s0 (mine id l)).2), v.oneCell' = true := ccells_one _ _ _ _
      have rd := HI.out.bo.range 0 (shc id (ver, (s0 (mine id l)).2)) (by rw [List.drop_zero, List.take_length])
      obtain ⟨ds, hds⟩ : ∃ ds, ds = shc id (ver, (s0 (mine id l)).2) := ⟨_, rfl⟩
      have HDS := Lib.hid hds
      rw [← hds] at HDL hone rd
      have TH := HI.out.br.there 0 27 (by rw [ccells_len 0 0 0 zeros_len]; omega)
      have h27d : ds.toArray.size = 27 := (List.size_toArray).trans HDL.out
      have FIN := HI.out.br.whole (ds := ds) (by rw [HDL.out, ccells_len 0 0 0 zeros_len])
      have FB := below_sets (B := w.heap.size) (b := w.heap.size + 1) (by omega) ds 0 HI.out.be
      clear ht hds HI
      go_wp2_with (first
        | (refine wpList_load_mid rfl 32 (.tmp 5) rfl (w.heap.size + 2) 0 rfl ds _ rd huc rfl (by rw [HDL.out]; exact info_card) ?_)
        | (refine wpList_store_mid rfl 32 (.tmp 4) (.tmp 32) rfl (w.heap.size + 1) 0 ds.toArray rfl rfl (by rw [h27d]; exact TH) (by rw [h27d]; exact info_card) (all_oneCell_toArray hone) ?_)
        | fail)
      exact bodyPost_ret (v := .agg ds.toArray) (results_blk (q := 4) rfl _ _ (w.heap.size + 1) ds _ rfl FIN huc rfl (by rw [HDL.out]; exact info_card)) rfl ⟨by rw [HDS.out], FB⟩
end Go.Proofs.Ytjlpccdlpgkgoaa
