/- The functions of a filter: that of two parts; any filter's. -/
import Derived.Test.YtfoppjgjljellaaEvD
namespace Go.Proofs.Ytfoppjgjljellaa
set_option linter.unusedVariables false
set_option linter.unusedSimpArgs false
open Go Go.RowKit Go.Shelf BitM ValM

def relSays (mm : Int) (l : List Nd) : Rel where
  rel x w := Says mm w x l
  mono := fun x w w' h hs => hs.later h
  real := fun w h => by obtain ⟨f, caps, F, e, _⟩ := h; cases e
/-- A slot that holds a pointer to a new function variable. -/
def relFn (B : Nat) : Rel where
  rel x w := ∃ g, x = .pointer (some ⟨g, 0, none⟩) ∧ B ≤ g ∧ Blk w g [.nilFunc]
  mono := fun x w w' h ⟨g, e, hg, hr⟩ => ⟨g, e, hg, hr.later h⟩
  real := fun w ⟨g, e, _⟩ => by cases e
theorem run_newfn (w : World) : (Instr.alloc 70 true (.tuple #[])).run Try.prog w = .ok (.pointer (some ⟨w.heap.size, 0, none⟩)) (w.alloc (.cells #[.nilFunc] 70)) := by kernel_rfl
theorem exec_newfn {a : Act} {op : Oper} (ho : op.op = .alloc 70) (w : World) : (execOp a.eval op).run Try.prog w = .ok (.value (.pointer (some ⟨w.heap.size, 0, none⟩))) (w.alloc (.cells #[.nilFunc] 70)) := by
  unfold execOp
  simp only [ho, Sem.run_bind, run_newfn, Result.andThen_ok, Sem.run_pure]
theorem fn_gives {a : Act} {op : Oper} (ho : op.op = .alloc 70) (B : Nat) (w : World) (hB : B ≤ w.heap.size) : gives Try.prog op a (relFn B).rel w := by
  unfold gives
  rw [exec_newfn ho]
  exact ⟨(Below.refl _ _).alloc (Nat.le_refl _) _, _, rfl, hB, Blk.new w [.nilFunc] _⟩
def allocsB (l : List Oper) (d8 d9 : Tmp) : Bool := l.all fun o => if o.dst = some d8 ∨ o.dst = some d9 then (match o.op with | .alloc t => t == 70 | _ => false) else true
theorem allocs_run {l : List Oper} {d8 d9 : Tmp} (h : allocsB l d8 d9 = true) (i : Nat) (o : Oper) (hi : l.toArray[i]? = some o) (hd : o.dst = some d8 ∨ o.dst = some d9) (a : Act) (w : World) :
    (execOp a.eval o).run Try.prog w = .ok (.value (.pointer (some ⟨w.heap.size, 0, none⟩))) (w.alloc (.cells #[.nilFunc] 70)) := by
  have hm : o ∈ l := by
    rw [List.getElem?_toArray] at hi
    exact List.mem_of_getElem? hi
  have h1 := List.all_eq_true.1 h o hm
  rw [if_pos hd] at h1
  refine exec_newfn ?_ w
  split at h1
  · rename_i t ht
    rw [ht]
    simp only [beq_iff_eq] at h1
    rw [h1]
  · cases h1
theorem two_undef {d8 d9 : Tmp} {a : Act} (h8 : a.eval (.tmp d8) = undef) (h9 : a.eval (.tmp d9) = undef) (w : World) : Two d8 d9 a w := by
  refine ⟨fun g hg => ?_, fun g hg => ?_, fun g g' hg _ => ?_⟩
  · rw [h8] at hg; cases hg
  · rw [h9] at hg; cases hg
  · rw [h8] at hg; cases hg
/-- What a function says, it says when other function variables are set for the first time. -/
theorem Says.fill {mm : Int} {w : World} {v u : Value} {l : List Nd} {g : Nat} (h : Says mm w v l) (hg : Blk w g [.nilFunc]) : Says mm (w.setCell ⟨g, 0, none⟩ u) v l :=
  h.keep fun k x hx hn => Below.heap_setCell w ⟨g, 0, none⟩ u k (fun e => by
    subst e
    have := hg.cell (j := 0) rfl
    rw [hx] at this
    injection this with this
    rw [this] at hn
    cases hn)
set_option maxRecDepth 100000 in
set_option maxHeartbeats 3200000 in
theorem tree_and (mm : Int) (A : Option Addr) (n c : Nat) (x : Nd) (l' : List Nd) (w : World) (hin : TreeIn mm A n c (x :: l') w) (hx : x.1 = 11) (IH : ∀ l2, l2.length < (x :: l').length → ∀ A n c w, TreeIn mm A n c l2 w → Calls Try.prog 41 #[.slice A n c] w (GivesF mm w l2)) :
    Calls Try.prog 41 #[.slice A n c] w (GivesF mm w (x :: l')) := by
  have hu := Try.underlying57
  have hok := hin.ok x (by simp)
  have hop := nok_op hok
  obtain ⟨b, o, rfl, hb, _, _, hrg⟩ := sees_node hin.sees 0 (by simp)
  have hnx : (x :: l')[0] = x := rfl
  rw [hnx] at hrg
  have hn1 : (0 : Int) < (n : Int) := by have := hin.len; simp at this; omega
  have HK := Lib.hid (kids_tree (some ⟨b, o, none⟩) n c x l' w hin.len hin.sees hin.cap hin.max hin.wood)
  have HI := Lib.hid hin
  have HRG := Lib.hid (fun (wx : World) (h : Below w.heap.size w wx) => ((sees_node (hin.sees.below h) 0 (by simp))))
  have hrg' : ∀ wx, Below w.heap.size w wx → wx.rangeAt b (o + 0 * 5) (ncells x) := fun wx h j v hj => (h.cell (p := ⟨b, o + 0 * 5 + j, none⟩) hb).trans (hrg j v hj)
  clear HRG
  have hw2 : Wood l' 2 := by
    obtain ⟨j, hj, h1⟩ := wood_cons hin.wood
    obtain rfl : j = 0 := by omega
    rwa [Nat.zero_add, show par x.1 = 2 from by rw [hx]; rfl] at h1
  obtain ⟨p, q, rfl, hwp, hwq, hkp⟩ := kids_two hw2
  have hpk : kidsOf (p ++ q) (par x.1) = [p, q] := by rw [show par x.1 = 2 from by rw [hx]; rfl]; exact hkp
  rw [hpk, show ([p, q] : List (List Nd)).length = 2 from rfl] at HK
  have HIH := Lib.hid IH
  have HWP := Lib.hid hwp
  have HWQ := Lib.hid hwq
  have HP1 : Hid (p.length < (x :: (p ++ q)).length) := Lib.hid (by simp; omega)
  have HP2 : Hid (q.length < (x :: (p ++ q)).length) := Lib.hid (by simp; omega)
  clear IH hw2 hwp hwq hkp hpk
  go_enter Try.func41, Try.ntmps41
  go_wp2_with fail
  refine (HK.out).mono ?_
  rintro e w1 ⟨Ak, ck, rfl, hk, hb1⟩
  have hrg1 := hrg' w1 hb1
  have BN := Blk.new w1 (ncells zn) 57
  have TH := BN.there 0 5 (by decide)
  have HSZ := Lib.hid (show (ncells x).length = 5 from rfl)
  have HONE := Lib.hid (show ∀ v ∈ ncells x, v.oneCell' = true from fun v hv => ncs_one [x] v (by simpa [ncs] using hv))
  have FIN : Hid (Blk ((w1.alloc (.cells (ncells zn).toArray 57)).setCells w1.heap.size 0 (ncells x)) w1.heap.size (ncells x)) := Lib.hid (by
    have h := BN.sets (ncells x) 0 (by rw [ncells_len, ncells_len]; exact Nat.le_refl 5)
    simpa [ncells] using h)
  have G1 : Hid (Below w1.heap.size w1 ((w1.alloc (.cells (ncells zn).toArray 57)).setCells w1.heap.size 0 (ncells x))) := Lib.hid (by
    exact ((Below.refl w1.heap.size w1).alloc (Nat.le_refl _) _).grown (grown_sets w1.heap.size (ncells x) 0 (w1.alloc (.cells (ncells zn).toArray 57))) (by simp) (fun k e => by injection e with e; omega))
  have HB := Lib.hid hb1
  obtain ⟨op, hop0⟩ : ∃ op, op = x.1 := ⟨_, rfl⟩
  have c0 : Hid (((w1.alloc (.cells (ncells zn).toArray 57)).setCells w1.heap.size 0 (ncells x)).cell? ⟨w1.heap.size, 0, none⟩ = some (.int .i64 op)) := Lib.hid (by rw [hop0]; exact FIN.out.cell (j := 0) rfl)
  obtain ⟨nc, hnc⟩ : ∃ nc, nc = ncells x := ⟨_, rfl⟩
  rw [← hnc] at HSZ HONE FIN G1 hrg1 c0
  rw [znode] at TH FIN G1 c0
  have HNC := Lib.hid hnc
  clear hnc hrg' hb1 BN hrg hb
  have hkk := hk.out
  obtain ⟨bk, ok, rfl, hbk, hkk⟩ := hkk (by simp)
  obtain ⟨A0, c0', hc0, hs0, hcap0⟩ := hkk 0 (by simp)
  obtain ⟨A1, c1', hc1, hs1, hcap1⟩ := hkk 1 (by simp)
  have hl0 : ([p, q] : List (List Nd))[0] = p := rfl
  have hl1 : ([p, q] : List (List Nd))[1] = q := rfl
  rw [hl0] at hc0 hs0 hcap0
  rw [hl1] at hc1 hs1 hcap1
  have KC0 := Lib.hid (fun wx (h : Below w1.heap.size w1 wx) => (h.cell (p := ⟨bk, ok, none⟩) hbk).trans hc0)
  have KC1 := Lib.hid (fun wx (h : Below w1.heap.size w1 wx) => (h.cell (p := ⟨bk, ok + 1, none⟩) hbk).trans hc1)
  have HS0 := Lib.hid hs0
  have HS1 := Lib.hid hs1
  have HCAP0 := Lib.hid hcap0
  have HCAP1 := Lib.hid hcap1
  clear hkk hk hs0 hcap0 hs1 hcap1 hc0 hc1 hl0 hl1
  have b10 : (op == 10) = false := by rw [hop0, hx]; rfl
  have b11 : (op == 11) = true := by rw [hop0, hx]; rfl
  go_wp2_with (first
    | (refine wpList_load_mid rfl 57 (.tmp 13) rfl b (o + 0 * 5) rfl nc _ hrg1 hu rfl (by rw [HSZ.out]; exact info_node) ?_)
    | (refine wpList_store_mid rfl 57 (.tmp 4) (.tmp 14) rfl w1.heap.size 0 nc.toArray rfl rfl (by simpa [HSZ.out] using TH) (by simpa [HSZ.out] using info_node) (all_oneCell_toArray HONE.out) ?_
       clear hrg1 TH
       generalize (w1.alloc (.cells #[Value.int .i64 0, .int .i64 0, .int .i64 0, .int .i64 0, .string { data := #[] }] 57)).setCells w1.heap.size 0 nc = w2 at *
       replace c0 := c0.out)
    | fail)
  have G1X := Lib.hid G1.out
  have IN0 : ∀ wx, Below w2.heap.size w2 wx → TreeIn mm A0 p.length c0' p wx := fun wx h => by
    have h1 := G1X.out.trans (h.mono G1X.out.size)
    exact ⟨rfl, (HS0.out.below h1).more h1.size, HCAP0.out, by have h1 := HI.out.len; have h2 := HI.out.max; simp at h1; omega, HWP.out, fun y hy => HI.out.ok y (by simp [hy]), HI.out.mem.later (HB.out.trans (h1.mono HB.out.size))⟩
  have IN1 : ∀ wx, Below w2.heap.size w2 wx → TreeIn mm A1 q.length c1' q wx := fun wx h => by
    have h1 := G1X.out.trans (h.mono G1X.out.size)
    exact ⟨rfl, (HS1.out.below h1).more h1.size, HCAP1.out, by have h1 := HI.out.len; have h2 := HI.out.max; simp at h1; omega, HWQ.out, fun y hy => HI.out.ok y (by simp [hy]), HI.out.mem.later (HB.out.trans (h1.mono HB.out.size))⟩
  refine wp_region_tail2 6 7 (by decide) (.cells #[.nilFunc] 70) (allocs_run (by kernel_rfl)) (two_undef rfl rfl) [(30, relSays mm p), (34, relSays mm q), (6, relFn w2.heap.size), (7, relFn w2.heap.size)] 57 10 (by kernel_rfl) (by kernel_rfl) (by kernel_rfl) (by rfl) ?_
  simp only [List.take_succ_cons, List.take_zero, List.drop_succ_cons, List.drop_zero]
  repeat (refine wpG_quiet (by rfl) (by rfl) (by rfl) (fun K hK => ?_); go_big_quiet_op; refine hK _ ?_; clear hK K)
  refine wpG_run (by rfl) (by rfl) (.slice A0 p.length c0') (fun wx hl => ?_) ?_
  · have kc := KC0.out wx (G1X.out.trans (hl.1.mono G1X.out.size))
    simp [go_sem, kc]
  simp only [Act.put, List.setIfInBounds_toArray, List.set_cons_zero, List.set_cons_succ]
  refine wpG_calls (relSays mm p) (by rfl) (by rfl) 41 #[.slice A0 p.length c0'] (by intro _; simp [go_sem]) (fun wx hl => (HIH.out p HP1.out _ _ _ _ (IN0 wx hl.1)).mono ?_) ?_
  · rintro e wy ⟨v, rfl, hs, hb⟩
    exact ⟨v, rfl, hb, hs⟩
  rintro _ ⟨_, _, _, ⟨f1, caps1, _, rfl, _⟩⟩
  simp only [Act.put, List.setIfInBounds_toArray, List.set_cons_zero, List.set_cons_succ]
  repeat (refine wpG_quiet (by rfl) (by rfl) (by rfl) (fun K hK => ?_); go_big_quiet_op; refine hK _ ?_; clear hK K)
  refine wpG_run (by rfl) (by rfl) (.slice A1 q.length c1') (fun wx hl => ?_) ?_
  · have kc := KC1.out wx (G1X.out.trans (hl.1.mono G1X.out.size))
    simp [go_sem, kc]
  simp only [Act.put, List.setIfInBounds_toArray, List.set_cons_zero, List.set_cons_succ]
  refine wpG_calls (relSays mm q) (by rfl) (by rfl) 41 #[.slice A1 q.length c1'] (by intro _; simp [go_sem]) (fun wx hl => (HIH.out q HP2.out _ _ _ _ (IN1 wx hl.1)).mono ?_) ?_
  · rintro e wy ⟨v, rfl, hs, hb⟩
    exact ⟨v, rfl, hb, hs⟩
  rintro _ ⟨_, _, _, ⟨f2, caps2, _, rfl, _⟩⟩
  simp only [Act.put, List.setIfInBounds_toArray, List.set_cons_zero, List.set_cons_succ]
  refine wpG_open (relFn w2.heap.size) (by rfl) (by rfl) (fun wx hl => fn_gives rfl w2.heap.size wx hl.1.size) ?_
  rintro _ ⟨_, _, _, ⟨g1, rfl, hg1, _⟩⟩
  simp only [Act.put, List.setIfInBounds_toArray, List.set_cons_zero, List.set_cons_succ]
  refine wpG_open (relFn w2.heap.size) (by rfl) (by rfl) (fun wx hl => fn_gives rfl w2.heap.size wx hl.1.size) ?_
  rintro _ ⟨_, _, _, ⟨g2, rfl, hg2, _⟩⟩
  simp only [Act.put, List.setIfInBounds_toArray, List.set_cons_zero, List.set_cons_succ]
  refine wpG_nil fun wz hl hs htwo => ?_
  have hne : g1 ≠ g2 := htwo.2.2 g1 g2 rfl rfl
  obtain ⟨⟨⟨⟨_, hs1⟩, hs2⟩, h1, e1, _, hbk1⟩, h2, e2, _, hbk2⟩ := hs
  obtain rfl : g1 = h1 := by injection e1 with e1; injection e1 with e1; injection e1
  obtain rfl : g2 = h2 := by injection e2 with e2; injection e2 with e2; injection e2
  have bz1 : Blk (wz.setCell ⟨g1, 0, none⟩ (.func (.func f1) #[] caps1)) g1 [.func (.func f1) #[] caps1] := hbk1.set 0 _
  have bz2 : Blk (wz.setCell ⟨g1, 0, none⟩ (.func (.func f1) #[] caps1)) g2 [.nilFunc] := hbk2.setOther 0 _ hne
  have bf1 : Blk ((wz.setCell ⟨g1, 0, none⟩ (.func (.func f1) #[] caps1)).setCell ⟨g2, 0, none⟩ (.func (.func f2) #[] caps2)) g1 [.func (.func f1) #[] caps1] := bz1.setOther 0 _ (fun e => hne e.symm)
  have bf2 : Blk ((wz.setCell ⟨g1, 0, none⟩ (.func (.func f1) #[] caps1)).setCell ⟨g2, 0, none⟩ (.func (.func f2) #[] caps2)) g2 [.func (.func f2) #[] caps2] := bz2.set 0 _
  have hs1' : Says mm wz (.func (.func f1) #[] caps1) p := hs1
  have hs2' : Says mm wz (.func (.func f2) #[] caps2) q := hs2
  have HS1' := Lib.hid ((hs1'.fill (u := .func (.func f1) #[] caps1) hbk1).fill (u := .func (.func f2) #[] caps2) bz2)
  have HS2' := Lib.hid ((hs2'.fill (u := .func (.func f1) #[] caps1) hbk1).fill (u := .func (.func f2) #[] caps2) bz2)
  have hbw : Below w.heap.size w ((wz.setCell ⟨g1, 0, none⟩ (.func (.func f1) #[] caps1)).setCell ⟨g2, 0, none⟩ (.func (.func f2) #[] caps2)) := by
    have h1 : Below w.heap.size w wz := HB.out.trans ((G1X.out.trans (hl.mono G1X.out.size)).mono HB.out.size)
    have h2 : w.heap.size ≤ w2.heap.size := Nat.le_trans HB.out.size G1X.out.size
    exact (h1.setCell (p := ⟨g1, 0, none⟩) (Nat.le_trans h2 hg1) _).setCell (p := ⟨g2, 0, none⟩) (Nat.le_trans h2 hg2) _
  have cz1 := hbk1.cell (j := 0) rfl
  have fz1 := hbk1.frozen 0
  have cz2 := bz2.cell (j := 0) rfl
  have fz2 := bz2.frozen 0
  have HF1 := Lib.hid bf1
  have HF2 := Lib.hid bf2
  clear bz1 bz2 bf1 bf2 hbk1 hbk2 hs1 hs2 hs1' hs2' c0 IN0 IN1
  go_wp2_with fail
  go_ret
  refine ⟨_, rfl, ?_, hbw⟩
  exact and_says mm _ g1 g2 _ _ p q (x :: (p ++ q)) (HF1.out.cell (j := 0) rfl) (HF2.out.cell (j := 0) rfl) (HF1.out.out5 (by simp)) (HF2.out.out5 (by simp)) HS1'.out HS2'.out (fun lab g fs => ev_and hx HWP.out)
set_option maxRecDepth 100000 in
set_option maxHeartbeats 3200000 in
theorem tree_or (mm : Int) (A : Option Addr) (n c : Nat) (x : Nd) (l' : List Nd) (w : World) (hin : TreeIn mm A n c (x :: l') w) (hx : x.1 = 12) (IH : ∀ l2, l2.length < (x :: l').length → ∀ A n c w, TreeIn mm A n c l2 w → Calls Try.prog 41 #[.slice A n c] w (GivesF mm w l2)) :
    Calls Try.prog 41 #[.slice A n c] w (GivesF mm w (x :: l')) := by
  have hu := Try.underlying57
  have hok := hin.ok x (by simp)
  have hop := nok_op hok
  obtain ⟨b, o, rfl, hb, _, _, hrg⟩ := sees_node hin.sees 0 (by simp)
  have hnx : (x :: l')[0] = x := rfl
  rw [hnx] at hrg
  have hn1 : (0 : Int) < (n : Int) := by have := hin.len; simp at this; omega
  have HK := Lib.hid (kids_tree (some ⟨b, o, none⟩) n c x l' w hin.len hin.sees hin.cap hin.max hin.wood)
  have HI := Lib.hid hin
  have HRG := Lib.hid (fun (wx : World) (h : Below w.heap.size w wx) => ((sees_node (hin.sees.below h) 0 (by simp))))
  have hrg' : ∀ wx, Below w.heap.size w wx → wx.rangeAt b (o + 0 * 5) (ncells x) := fun wx h j v hj => (h.cell (p := ⟨b, o + 0 * 5 + j, none⟩) hb).trans (hrg j v hj)
  clear HRG
  have hw2 : Wood l' 2 := by
    obtain ⟨j, hj, h1⟩ := wood_cons hin.wood
    obtain rfl : j = 0 := by omega
    rwa [Nat.zero_add, show par x.1 = 2 from by rw [hx]; rfl] at h1
  obtain ⟨p, q, rfl, hwp, hwq, hkp⟩ := kids_two hw2
  have hpk : kidsOf (p ++ q) (par x.1) = [p, q] := by rw [show par x.1 = 2 from by rw [hx]; rfl]; exact hkp
  rw [hpk, show ([p, q] : List (List Nd)).length = 2 from rfl] at HK
  have HIH := Lib.hid IH
  have HWP := Lib.hid hwp
  have HWQ := Lib.hid hwq
  have HP1 : Hid (p.length < (x :: (p ++ q)).length) := Lib.hid (by simp; omega)
  have HP2 : Hid (q.length < (x :: (p ++ q)).length) := Lib.hid (by simp; omega)
  clear IH hw2 hwp hwq hkp hpk
  go_enter Try.func41, Try.ntmps41
  go_wp2_with fail
  refine (HK.out).mono ?_
  rintro e w1 ⟨Ak, ck, rfl, hk, hb1⟩
  have hrg1 := hrg' w1 hb1
  have BN := Blk.new w1 (ncells zn) 57
  have TH := BN.there 0 5 (by decide)
  have HSZ := Lib.hid (show (ncells x).length = 5 from rfl)
  have HONE := Lib.hid (show ∀ v ∈ ncells x, v.oneCell' = true from fun v hv => ncs_one [x] v (by simpa [ncs] using hv))
  have FIN : Hid (Blk ((w1.alloc (.cells (ncells zn).toArray 57)).setCells w1.heap.size 0 (ncells x)) w1.heap.size (ncells x)) := Lib.hid (by
    have h := BN.sets (ncells x) 0 (by rw [ncells_len, ncells_len]; exact Nat.le_refl 5)
    simpa [ncells] using h)
  have G1 : Hid (Below w1.heap.size w1 ((w1.alloc (.cells (ncells zn).toArray 57)).setCells w1.heap.size 0 (ncells x))) := Lib.hid (by
    exact ((Below.refl w1.heap.size w1).alloc (Nat.le_refl _) _).grown (grown_sets w1.heap.size (ncells x) 0 (w1.alloc (.cells (ncells zn).toArray 57))) (by simp) (fun k e => by injection e with e; omega))
  have HB := Lib.hid hb1
  obtain ⟨op, hop0⟩ : ∃ op, op = x.1 := ⟨_, rfl⟩
  have c0 : Hid (((w1.alloc (.cells (ncells zn).toArray 57)).setCells w1.heap.size 0 (ncells x)).cell? ⟨w1.heap.size, 0, none⟩ = some (.int .i64 op)) := Lib.hid (by rw [hop0]; exact FIN.out.cell (j := 0) rfl)
  obtain ⟨nc, hnc⟩ : ∃ nc, nc = ncells x := ⟨_, rfl⟩
  rw [← hnc] at HSZ HONE FIN G1 hrg1 c0
  rw [znode] at TH FIN G1 c0
  have HNC := Lib.hid hnc
  clear hnc hrg' hb1 BN hrg hb
  have hkk := hk.out
  obtain ⟨bk, ok, rfl, hbk, hkk⟩ := hkk (by simp)
  obtain ⟨A0, c0', hc0, hs0, hcap0⟩ := hkk 0 (by simp)
  obtain ⟨A1, c1', hc1, hs1, hcap1⟩ := hkk 1 (by simp)
  have hl0 : ([p, q] : List (List Nd))[0] = p := rfl
  have hl1 : ([p, q] : List (List Nd))[1] = q := rfl
  rw [hl0] at hc0 hs0 hcap0
  rw [hl1] at hc1 hs1 hcap1
  have KC0 := Lib.hid (fun wx (h : Below w1.heap.size w1 wx) => (h.cell (p := ⟨bk, ok, none⟩) hbk).trans hc0)
  have KC1 := Lib.hid (fun wx (h : Below w1.heap.size w1 wx) => (h.cell (p := ⟨bk, ok + 1, none⟩) hbk).trans hc1)
  have HS0 := Lib.hid hs0
  have HS1 := Lib.hid hs1
  have HCAP0 := Lib.hid hcap0
  have HCAP1 := Lib.hid hcap1
  clear hkk hk hs0 hcap0 hs1 hcap1 hc0 hc1 hl0 hl1
  have b10 : (op == 10) = false := by rw [hop0, hx]; rfl
  have b11 : (op == 11) = false := by rw [hop0, hx]; rfl
  have b12 : (op == 12) = true := by rw [hop0, hx]; rfl
  go_wp2_with (first
    | (refine wpList_load_mid rfl 57 (.tmp 13) rfl b (o + 0 * 5) rfl nc _ hrg1 hu rfl (by rw [HSZ.out]; exact info_node) ?_)
    | (refine wpList_store_mid rfl 57 (.tmp 4) (.tmp 14) rfl w1.heap.size 0 nc.toArray rfl rfl (by simpa [HSZ.out] using TH) (by simpa [HSZ.out] using info_node) (all_oneCell_toArray HONE.out) ?_
       clear hrg1 TH
       generalize (w1.alloc (.cells #[Value.int .i64 0, .int .i64 0, .int .i64 0, .int .i64 0, .string { data := #[] }] 57)).setCells w1.heap.size 0 nc = w2 at *
       replace c0 := c0.out)
    | fail)
  have G1X := Lib.hid G1.out
  have IN0 : ∀ wx, Below w2.heap.size w2 wx → TreeIn mm A0 p.length c0' p wx := fun wx h => by
    have h1 := G1X.out.trans (h.mono G1X.out.size)
    exact ⟨rfl, (HS0.out.below h1).more h1.size, HCAP0.out, by have h1 := HI.out.len; have h2 := HI.out.max; simp at h1; omega, HWP.out, fun y hy => HI.out.ok y (by simp [hy]), HI.out.mem.later (HB.out.trans (h1.mono HB.out.size))⟩
  have IN1 : ∀ wx, Below w2.heap.size w2 wx → TreeIn mm A1 q.length c1' q wx := fun wx h => by
    have h1 := G1X.out.trans (h.mono G1X.out.size)
    exact ⟨rfl, (HS1.out.below h1).more h1.size, HCAP1.out, by have h1 := HI.out.len; have h2 := HI.out.max; simp at h1; omega, HWQ.out, fun y hy => HI.out.ok y (by simp [hy]), HI.out.mem.later (HB.out.trans (h1.mono HB.out.size))⟩
  refine wp_region_tail2 8 9 (by decide) (.cells #[.nilFunc] 70) (allocs_run (by kernel_rfl)) (two_undef rfl rfl) [(41, relSays mm p), (45, relSays mm q), (8, relFn w2.heap.size), (9, relFn w2.heap.size)] 57 10 (by kernel_rfl) (by kernel_rfl) (by kernel_rfl) (by rfl) ?_
  simp only [List.take_succ_cons, List.take_zero, List.drop_succ_cons, List.drop_zero]
  repeat (refine wpG_quiet (by rfl) (by rfl) (by rfl) (fun K hK => ?_); go_big_quiet_op; refine hK _ ?_; clear hK K)
  refine wpG_run (by rfl) (by rfl) (.slice A0 p.length c0') (fun wx hl => ?_) ?_
  · have kc := KC0.out wx (G1X.out.trans (hl.1.mono G1X.out.size))
    simp [go_sem, kc]
  simp only [Act.put, List.setIfInBounds_toArray, List.set_cons_zero, List.set_cons_succ]
  refine wpG_calls (relSays mm p) (by rfl) (by rfl) 41 #[.slice A0 p.length c0'] (by intro _; simp [go_sem]) (fun wx hl => (HIH.out p HP1.out _ _ _ _ (IN0 wx hl.1)).mono ?_) ?_
  · rintro e wy ⟨v, rfl, hs, hb⟩
    exact ⟨v, rfl, hb, hs⟩
  rintro _ ⟨_, _, _, ⟨f1, caps1, _, rfl, _⟩⟩
  simp only [Act.put, List.setIfInBounds_toArray, List.set_cons_zero, List.set_cons_succ]
  repeat (refine wpG_quiet (by rfl) (by rfl) (by rfl) (fun K hK => ?_); go_big_quiet_op; refine hK _ ?_; clear hK K)
  refine wpG_run (by rfl) (by rfl) (.slice A1 q.length c1') (fun wx hl => ?_) ?_
  · have kc := KC1.out wx (G1X.out.trans (hl.1.mono G1X.out.size))
    simp [go_sem, kc]
  simp only [Act.put, List.setIfInBounds_toArray, List.set_cons_zero, List.set_cons_succ]
  refine wpG_calls (relSays mm q) (by rfl) (by rfl) 41 #[.slice A1 q.length c1'] (by intro _; simp [go_sem]) (fun wx hl => (HIH.out q HP2.out _ _ _ _ (IN1 wx hl.1)).mono ?_) ?_
  · rintro e wy ⟨v, rfl, hs, hb⟩
    exact ⟨v, rfl, hb, hs⟩
  rintro _ ⟨_, _, _, ⟨f2, caps2, _, rfl, _⟩⟩
  simp only [Act.put, List.setIfInBounds_toArray, List.set_cons_zero, List.set_cons_succ]
  refine wpG_open (relFn w2.heap.size) (by rfl) (by rfl) (fun wx hl => fn_gives rfl w2.heap.size wx hl.1.size) ?_
  rintro _ ⟨_, _, _, ⟨g1, rfl, hg1, _⟩⟩
  simp only [Act.put, List.setIfInBounds_toArray, List.set_cons_zero, List.set_cons_succ]
  refine wpG_open (relFn w2.heap.size) (by rfl) (by rfl) (fun wx hl => fn_gives rfl w2.heap.size wx hl.1.size) ?_
  rintro _ ⟨_, _, _, ⟨g2, rfl, hg2, _⟩⟩
  simp only [Act.put, List.setIfInBounds_toArray, List.set_cons_zero, List.set_cons_succ]
  refine wpG_nil fun wz hl hs htwo => ?_
  have hne : g1 ≠ g2 := htwo.2.2 g1 g2 rfl rfl
  obtain ⟨⟨⟨⟨_, hs1⟩, hs2⟩, h1, e1, _, hbk1⟩, h2, e2, _, hbk2⟩ := hs
  obtain rfl : g1 = h1 := by injection e1 with e1; injection e1 with e1; injection e1
  obtain rfl : g2 = h2 := by injection e2 with e2; injection e2 with e2; injection e2
  have bz1 : Blk (wz.setCell ⟨g1, 0, none⟩ (.func (.func f1) #[] caps1)) g1 [.func (.func f1) #[] caps1] := hbk1.set 0 _
  have bz2 : Blk (wz.setCell ⟨g1, 0, none⟩ (.func (.func f1) #[] caps1)) g2 [.nilFunc] := hbk2.setOther 0 _ hne
  have bf1 : Blk ((wz.setCell ⟨g1, 0, none⟩ (.func (.func f1) #[] caps1)).setCell ⟨g2, 0, none⟩ (.func (.func f2) #[] caps2)) g1 [.func (.func f1) #[] caps1] := bz1.setOther 0 _ (fun e => hne e.symm)
  have bf2 : Blk ((wz.setCell ⟨g1, 0, none⟩ (.func (.func f1) #[] caps1)).setCell ⟨g2, 0, none⟩ (.func (.func f2) #[] caps2)) g2 [.func (.func f2) #[] caps2] := bz2.set 0 _
  have hs1' : Says mm wz (.func (.func f1) #[] caps1) p := hs1
  have hs2' : Says mm wz (.func (.func f2) #[] caps2) q := hs2
  have HS1' := Lib.hid ((hs1'.fill (u := .func (.func f1) #[] caps1) hbk1).fill (u := .func (.func f2) #[] caps2) bz2)
  have HS2' := Lib.hid ((hs2'.fill (u := .func (.func f1) #[] caps1) hbk1).fill (u := .func (.func f2) #[] caps2) bz2)
  have hbw : Below w.heap.size w ((wz.setCell ⟨g1, 0, none⟩ (.func (.func f1) #[] caps1)).setCell ⟨g2, 0, none⟩ (.func (.func f2) #[] caps2)) := by
    have h1 : Below w.heap.size w wz := HB.out.trans ((G1X.out.trans (hl.mono G1X.out.size)).mono HB.out.size)
    have h2 : w.heap.size ≤ w2.heap.size := Nat.le_trans HB.out.size G1X.out.size
    exact (h1.setCell (p := ⟨g1, 0, none⟩) (Nat.le_trans h2 hg1) _).setCell (p := ⟨g2, 0, none⟩) (Nat.le_trans h2 hg2) _
  have cz1 := hbk1.cell (j := 0) rfl
  have fz1 := hbk1.frozen 0
  have cz2 := bz2.cell (j := 0) rfl
  have fz2 := bz2.frozen 0
  have HF1 := Lib.hid bf1
  have HF2 := Lib.hid bf2
  clear bz1 bz2 bf1 bf2 hbk1 hbk2 hs1 hs2 hs1' hs2' c0 IN0 IN1
  go_wp2_with fail
  go_ret
  refine ⟨_, rfl, ?_, hbw⟩
  exact or_says mm _ g1 g2 _ _ p q (x :: (p ++ q)) (HF1.out.cell (j := 0) rfl) (HF2.out.cell (j := 0) rfl) (HF1.out.out5 (by simp)) (HF2.out.out5 (by simp)) HS1'.out HS2'.out (fun lab g fs => ev_or hx HWP.out)

/-- Any filter's function. -/
theorem tree_any (mm : Int) : ∀ (N : Nat) (l : List Nd), l.length ≤ N → ∀ A n c w, TreeIn mm A n c l w → Calls Try.prog 41 #[.slice A n c] w (GivesF mm w l) := by
  intro N
  induction N with
  | zero =>
    intro l hl A n c w hin
    have h0 : l = [] := List.length_eq_zero_iff.1 (by omega)
    subst h0
    have := wood_uniq hin.wood wood_nil
    omega
  | succ N ih =>
    intro l hl A n c w hin
    cases l with
    | nil =>
      have := wood_uniq hin.wood wood_nil
      omega
    | cons x l' =>
      have hop := nok_op (hin.ok x (by simp))
      have hl' : l'.length ≤ N := by simp at hl; omega
      by_cases h9 : x.1 ≤ 9
      · exact tree_leaf mm A n c x l' w hin h9
      · by_cases h10 : x.1 = 10
        · exact tree_one mm A n c x l' w hin h10 (fun A n c w h => ih l' hl' A n c w h)
        · by_cases h11 : x.1 = 11
          · exact tree_and mm A n c x l' w hin h11 (fun l2 h2 A n c w h => ih l2 (by simp at h2; omega) A n c w h)
          · exact tree_or mm A n c x l' w hin (by omega) (fun l2 h2 A n c w h => ih l2 (by simp at h2; omega) A n c w h)
end Go.Proofs.Ytfoppjgjljellaa
