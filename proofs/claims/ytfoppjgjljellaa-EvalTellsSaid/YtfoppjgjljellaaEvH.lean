/- A filter asked of a card. -/
import Derived.Test.YtfoppjgjljellaaEvG
namespace Go.Proofs.Ytfoppjgjljellaa
set_option linter.unusedVariables false
set_option linter.unusedSimpArgs false
open Go Go.RowKit Go.Shelf BitM ValM

set_option maxRecDepth 100000 in
set_option maxHeartbeats 3200000 in
theorem match_any (mm : Int) (F : Nat) (l : List Nd) (w : World) (id ver : Int) (lab g : BitVec 32) (fs : List V3) (h : Fresh mm w F l ∨ Ready mm w F l) (hf : fs.length = 8) (hsz : ∀ u ∈ fs, u.2.2.size ≤ 1000) :
    Calls Try.prog 10 #[.pointer (some ⟨F, 0, none⟩), .agg (ccells id ver (lab.toNat : Int) fs).toArray, .int .u32 (g.toNat : Int)] w (GivesR mm w F l (ev lab g fs l)) := by
  have hu := Try.underlying28
  have hl0 := (Below.refl w.heap.size w).alloc (Nat.le_refl _) (.cells (ccells id ver (lab.toNat : Int) fs).toArray 28)
  have BC := Blk.new w (ccells id ver (lab.toNat : Int) fs) 28
  have hFl : F < w.heap.size := by
    rcases h with ⟨A, n, c, h1, _⟩ | ⟨A, n, c, v, h1, _⟩
    · exact h1.lt
    · exact h1.lt
  have h0 : Fresh mm (w.alloc (.cells (ccells id ver (lab.toNat : Int) fs).toArray 28)) F l ∨ Ready mm (w.alloc (.cells (ccells id ver (lab.toNat : Int) fs).toArray 28)) F l := h.elim (fun h => .inl (h.later hl0)) (fun h => .inr (h.later hl0))
  have HRD := Lib.hid (fun wx (h : Le (w.alloc (.cells (ccells id ver (lab.toNat : Int) fs).toArray 28)) wx) => ready_any mm F l wx (h0.elim (fun h' => .inl (h'.later h)) (fun h' => .inr (h'.later h))))
  have HL := Lib.hid (ccells_len id ver (lab.toNat : Int) hf)
  have HSZ := Lib.hid hsz
  have HF := Lib.hid hf
  have HFL := Lib.hid hFl
  have HL0 := Lib.hid hl0
  obtain ⟨cs, hcs⟩ : ∃ cs, cs = ccells id ver (lab.toNat : Int) fs := ⟨_, rfl⟩
  have HCS := Lib.hid hcs
  rw [← hcs] at BC HRD HL HL0 ⊢
  have HBC := Lib.hid BC
  obtain ⟨w0, hw0⟩ : ∃ w0, w0 = w.alloc (.cells cs.toArray 28) := ⟨_, rfl⟩
  obtain ⟨ca, hca⟩ : ∃ ca, ca = cs.toArray := ⟨_, rfl⟩
  have HCA := Lib.hid hca
  rw [← hw0] at HRD HL0 HBC
  have HW0 := Lib.hid hw0
  rw [← hca] at HW0 ⊢
  clear h hf hsz hFl hl0 hcs BC hw0 hca h0
  go_enter Try.func10, Try.ntmps10
  go_wp2_with fail
  rw [← HW0.out]
  refine wp_region_head 3 18 #[true, true, true, false, false, false, false, false, false, false, false, false] [.pointer (some ⟨F, 0, none⟩), .bool true, .bool true] (fun w' => Ready mm w' F l ∧ w0.grownBy w' (some F)) (by kernel_rfl) (by kernel_rfl) (by kernel_rfl) (by kernel_rfl) (by rfl) ?_ ?_
  · intro TAIL
    refine wpAny_step (fuel := 11) [0] (by kernel_rfl) rfl (fun i hi => ?_)
    simp only [List.mem_cons, List.not_mem_nil, or_false] at hi
    subst hi
    refine wpOp_move _ rfl (.tmp 0) rfl (by rfl) ?_
    simp only [Act.put, List.setIfInBounds_toArray, List.set_cons_zero, List.set_cons_succ]
    refine wpAny_step (fuel := 10) [1] (by kernel_rfl) rfl (fun i hi => ?_)
    simp only [List.mem_cons, List.not_mem_nil, or_false] at hi
    subst hi
    refine wpOp_call _ rfl 27 #[.pointer (some ⟨F, 0, none⟩)] (by simp [go_sem]) (by rfl) ((HRD.out _ ((Below.refl _ _).drew)).mono ?_)
    rintro e' w1 ⟨rfl, hr, hg⟩
    refine ⟨_, rfl, ?_⟩
    simp only [Act.put, List.setIfInBounds_toArray, List.set_cons_zero, List.set_cons_succ]
    refine wpAny_step (fuel := 9) [2] (by kernel_rfl) rfl (fun i hi => ?_)
    simp only [List.mem_cons, List.not_mem_nil, or_false] at hi
    subst hi
    refine wpOp_move _ rfl (.tmp 8) rfl (by rfl) ?_
    simp only [Act.put, List.setIfInBounds_toArray, List.set_cons_zero, List.set_cons_succ]
    exact TAIL _ ⟨hr, (grown_le ((Below.refl _ _).drew) _).trans hg⟩
  · rintro w1 ⟨hr, hg⟩
    have HR := Lib.hid hr
    have HG := Lib.hid (hg.trans (grown_le (Le.refl _) _))
    have hB1 : Hid (Blk w1 w.heap.size cs) := Lib.hid (HBC.out.kept hg (by intro e; injection e with e; have := HFL.out; omega))
    obtain ⟨A, n, c, v, hF1, hs, hin⟩ := hr
    obtain ⟨f1, caps1, FF, rfl, hen, hini, hft, hcall⟩ := hs
    have HF1 := Lib.hid hF1
    have HC := Lib.hid (fun wx (hl : Le w1 wx) => hcall wx id ver lab g fs (fun k hk => hl.block k (by obtain ⟨u, hu, _⟩ := hft k hk; exact World.block_lt_of_cell? _ ⟨k, 0, none⟩ hu)) HF.out HSZ.out)
    rw [← HCS.out, ← HCA.out] at HC
    obtain ⟨R, hR⟩ : ∃ R, R = ev lab g fs l := ⟨_, rfl⟩
    rw [← hR] at HC
    have HRR := Lib.hid hR
    obtain ⟨args, hargs⟩ : ∃ args : Array Value, args = #[Value.agg ca, Value.int .u32 (g.toNat : Int)] ++ caps1 := ⟨_, rfl⟩
    rw [← hargs] at HC
    clear hcall hft hF1 hin hg hR
    simp only [putsAll, List.drop_succ_cons, List.drop_zero]
    simp only [Act.put, List.setIfInBounds_toArray, List.set_cons_zero, List.set_cons_succ]
    repeat (refine wpG_quiet (by rfl) (by rfl) (by rfl) (fun K hK => ?_); go_big_quiet_op; refine hK _ ?_; clear hK K)
    refine wpG_run (by rfl) (by rfl) (.func (.func f1) #[] caps1) (fun wx hl => ?_) ?_
    · have kc := (HF1.out.later hl.1).cell (j := 4) rfl
      simp [go_sem, kc]
    simp only [Act.put, List.setIfInBounds_toArray, List.set_cons_zero, List.set_cons_succ]
    refine wpG_run (by rfl) (by rfl) (.agg ca) (fun wx hl => by rw [HCA.out]; exact exec_load 28 (.tmp 4) rfl w.heap.size 0 rfl cs _ ((hB1.out.later hl.1).range 0 cs (by rw [List.drop_zero, List.take_length])) hu rfl (by rw [HL.out]; exact info_crd)) ?_
    simp only [Act.put, List.setIfInBounds_toArray, List.set_cons_zero, List.set_cons_succ]
    repeat (refine wpG_quiet (by rfl) (by rfl) (by rfl) (fun K hK => ?_); go_big_quiet_op; refine hK _ ?_; clear hK K)
    refine wpG_call (by rfl) (by rfl) f1 args (.bool R) (by intro _; rw [hargs]; simp [go_sem, hen]) hini (fun wx hl => HC.out wx hl.1) ?_
    simp only [Act.put, List.setIfInBounds_toArray, List.set_cons_zero, List.set_cons_succ]
    repeat (refine wpG_quiet (by rfl) (by rfl) (by rfl) (fun K hK => ?_); go_big_quiet_op; refine hK _ ?_; clear hK K)
    refine wpG_nil fun wz hl hs => ?_
    go_wp2_with fail
    go_ret
    exact ⟨by rw [← HRR.out]; rfl, HR.out.later hl, ((grown_le HL0.out _).trans HG.out).trans (grown_le hl _)⟩
end Go.Proofs.Ytfoppjgjljellaa
