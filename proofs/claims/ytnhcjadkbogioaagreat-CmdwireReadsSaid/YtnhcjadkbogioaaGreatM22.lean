/- Filters as they are read of bytes: what the document's node returns: the walk. -/
import Derived.Test.YtnhcjadkbogioaaGreatM21
import Derived.Test.YtnhcjadkbogioaaGreatM13
import Derived.Test.YtnhcjadkbogioaaGreatM9
import Derived.Test.YtnhcjadkbogioaaGreatM18
import Derived.Test.YtnhcjadkbogioaaGreatM3
set_option maxRecDepth 100000
set_option linter.unusedVariables false
set_option linter.unusedSimpArgs false
set_option maxHeartbeats 12800000
namespace Go.Proofs.YtnhcjadkbogioaaGreat
open Go Go.RowKit OctM
theorem NSt.out {w : World} {base g G2 G3 : Nat} {l : List UInt8} {wx : World} {a : Nat} {e : Int} {nd : Nd} (h : NSt w base g G2 G3 l wx a e nd) :
    Blk (wx.setCells G2 0 (ncells nd)) G2 (ncells nd) ∧ Rr (wx.setCells G2 0 (ncells nd)) base g (l.drop a) e ∧ w.grownBy (wx.setCells G2 0 (ncells nd)) (some g) ∧ wx.rangeAt G3 0 (ncells nd) ∧ wx.there G2 0 5 :=
  ⟨by
    have := h.b2.sets (ncells nd) 0 (by rw [ncells_len, ncells_len]; exact Nat.le_refl 5)
    simpa [ncells] using this,
  h.rr.row (grown_sets G2 (ncells nd) 0 wx) (fun q e => by injection e with e; have := h.lt; have := h.le; omega),
  grown_row h.gr (grown_sets G2 (ncells nd) 0 wx) (fun q e => by injection e with e; have := h.le; omega),
  h.b3.range 0 _ (by rw [List.drop_zero, List.take_length]), h.b2.there 0 5 (by rw [ncells_len]; exact Nat.le_refl 5)⟩
theorem rr_node (base g : Nat) (l : List UInt8) (a : Nat) (w : World) (h : Rr w base g (l.drop a) 0) (ha : a ≤ l.length) (hm : l.length ≤ 4000) :
    Calls Tryz.prog 56 #[.pointer (some ⟨g, 0, none⟩)] w fun x w' => x = .returned (.agg (ncells (nodeOut l a).1).toArray) ∧ Rr w' base g (l.drop (nodeOut l a).2.1) (nodeOut l a).2.2 ∧ w.grownBy w' (some g) := by
  have hu := Tryz.underlying73
  have hgl := h.block.2
  have hb0 := (Below.refl w.heap.size w).alloc (Nat.le_refl _) (.cells (ncells zn).toArray 73)
  have hB0 := Blk.new w (ncells zn) 73
  have HNUM := hid (rr_numd base g l a 0 12 (w.alloc (.cells (ncells zn).toArray 73)) (h.later hb0) hm)
  have e1 : (numOut l a 0 12).1 = ndA l a := rfl
  have e2 : (numOut l a 0 12).2.1 = naA l a := rfl
  rw [e1, e2] at HNUM
  have HERR := hid (fun hz => numOut_err l a 0 12 hz)
  rw [e1] at HERR
  have HNE : Hid (neA l a = if ndA l a = 0 then failOut (numOut l a 0 12).2.2 3 else (numOut l a 0 12).2.2) := hid rfl
  obtain ⟨ez, hez⟩ : ∃ ez, ez = (numOut l a 0 12).2.2 := ⟨_, rfl⟩
  rw [← hez] at HNUM HNE HERR
  have hsz0 : (w.alloc (.cells (ncells zn).toArray 73)).heap.size = w.heap.size + 1 := by simp
  obtain ⟨W0, hW0⟩ : ∃ W, W = w.alloc (.cells (ncells zn).toArray 73) := ⟨_, rfl⟩
  have HW0 := hid hW0
  rw [← hW0] at HNUM hb0 hB0 hsz0
  rw [znode] at HW0
  have HG0 : Hid (w.grownBy W0 (some g)) := hid ⟨hb0.os, hb0.tape, hb0.output, hb0.size, fun q hq _ => hb0.block q hq⟩
  have HNA := hid (naA_at (l := l) ha)
  have HBA := hid (nB_at (l := l) ha)
  obtain ⟨⟨nd4, a4, e4⟩, hq4⟩ : ∃ q, q = nodeOut l a := ⟨_, rfl⟩
  have HQ := hid hq4
  rw [← hq4]
  simp only
  clear h hb0 hW0 e1 e2 hez hq4
  go_enter Tryz.func56, Tryz.ntmps56
  go_wp2_with fail
  rw [← HW0.out]
  refine HNUM.out.mono ?_
  rintro e w1 ⟨rfl, hr1, hg1⟩
  clear HNUM
  have B2 := hB0.kept hg1 (by simp; omega)
  have hw1 := hg1.size
  have hb1 := (Below.refl w1.heap.size w1).alloc (Nat.le_refl _) (.cells (ncells zn).toArray 73)
  have hB3 := Blk.new w1 (ncells zn) 73
  have TH3 := hB3.there 0 5 (by rw [ncells_len]; exact Nat.le_refl 5)
  have S0 : NSt w base g w.heap.size w1.heap.size l (w1.alloc (.cells (ncells zn).toArray 73)) (naA l a) ez zn :=
    ⟨hr1.later hb1, B2.later hb1, hB3, grown_onto (HG0.out.trans hg1) hb1, hgl, Nat.le_refl _, by omega⟩
  have S1 : NSt w base g w.heap.size w1.heap.size l ((w1.alloc (.cells (ncells zn).toArray 73)).setCells w1.heap.size 0 (ncells ((ndA l a : Int), 0, zv))) (naA l a) ez ((ndA l a : Int), 0, zv) :=
    ⟨S0.rr.row (grown_sets _ _ _ _) (fun q e => by injection e with e; omega), S0.b2.setsOther (by omega) _ _, (by
      have := S0.b3.sets (ncells ((ndA l a : Int), 0, zv)) 0 (by rw [ncells_len, ncells_len]; exact Nat.le_refl 5)
      simpa [ncells] using this), grown_row S0.gr (grown_sets _ _ _ _) (fun q e => by injection e with e; omega), S0.lt, S0.le, S0.l3⟩
  obtain ⟨W1, hW1⟩ : ∃ W, W = (w1.alloc (.cells (ncells zn).toArray 73)).setCells w1.heap.size 0 (ncells ((ndA l a : Int), 0, zv)) := ⟨_, rfl⟩
  rw [← hW1] at S1
  have HW1 : Hid (W1 = (w1.alloc (.cells #[.int .i64 0, .int .i64 0, .int .i64 0, .int .i64 0, .string ⟨#[]⟩] 73)).setCells w1.heap.size 0 [.int .i64 (ndA l a : Int), .int .i64 0, .int .i64 0, .int .i64 0, .string ⟨#[]⟩]) := hid hW1
  rw [znode] at TH3
  obtain ⟨G3, hG3⟩ : ∃ G, G = w1.heap.size := ⟨_, rfl⟩
  rw [← hG3] at TH3 S1 HW1
  have HG3 := hid hG3
  have HS1 := hid S1
  have q1 := S1.rr.facts.2.1
  have q0 := S1.b3.cell (j := 0) rfl
  clear hb1 hB3 B2 hB0 S0 hr1 hg1 hW1 S1 hG3 HG0 hsz0 hw1
  -- the ways
  by_cases h0 : ndA l a = 0
  · have en : nodeOut l a = ((0, 0, zv), naA l a, neA l a) := by
      have h1 := nA_stop (l := l) (a := a) (neA_no h0)
      have hb : (nB l a).1 = 0 := by unfold nB; rw [h0]; rw [if_neg (by show ¬ hasN 0 = true; rw [hasN_zero]; simp)]
      have hv : (nV l a).1 = zv := by unfold nV; rw [h0]; rw [if_neg (by show ¬ hasV 0 = true; rw [hasV_zero]; simp)]
      have h2 : (nodeOut l a).1 = (0, 0, zv) := by show ndOf l a = _; unfold ndOf; rw [hb, hv, h0]; rfl
      rw [← h1, ← h2]
    have HE2 : Hid (neA l a = failOut ez 3) := hid (by rw [HNE.out, if_pos h0])
    rw [h0] at HS1 HW1 q0
    have z0 : ((0 : Nat) : Int) = 0 := rfl
    rw [z0] at HS1 HW1 q0
    have HQ1 : Hid (nd4 = (0, 0, zv)) := hid (by have := HQ.out; rw [en] at this; injection this)
    have HQ2 : Hid (a4 = naA l a) := hid (by have := HQ.out; rw [en] at this; injection this with _ h; injection h)
    have HQ3 : Hid (e4 = failOut ez 3) := hid (by have := HQ.out; rw [en, HE2.out] at this; injection this with _ h; injection h)
    rw [h0]
    generalize naA l a = aA at HS1 HQ2
    clear en h0 HNE HERR HE2
    by_cases hz : ez = 0
    · subst hz
      go_wp2_with (first
        | (refine wpList_store_mid rfl 73 (.tmp 3) (.tmp 6) rfl w1.heap.size 0 _ rfl rfl (by rw [← HG3.out]; exact TH3) (by exact info_node) (by simp [Value.oneCell']) ?_
           rw [← HG3.out]
           rw [show (w1.alloc (.cells #[.int .i64 0, .int .i64 0, .int .i64 0, .int .i64 0, .string ⟨#[]⟩] 73)).setCells G3 0 (#[.int .i64 0, .int .i64 0, .int .i64 0, .int .i64 0, .string ⟨#[]⟩] : Array Value).toList = W1 from HW1.out.symm])
        | fail)
      refine (rr_fail base g (l.drop aA) 0 3 _ HS1.out.rr).mono ?_
      rintro e w3 ⟨rfl, hr3, hg3⟩
      have HS2 := hid (HS1.out.read hr3 hg3)
      have q0 := HS2.out.b3.cell (j := 0) rfl
      clear hr3 hg3
      obtain ⟨f1, f2, f3, f4, f5⟩ := HS2.out.out
      have HF := hid (And.intro f1 (And.intro f2 f3))
      have HSZ : Hid ((ncells (0, 0, zv)).length = 5) := hid rfl
      have HONE : Hid (∀ zz ∈ ncells (0, 0, zv), zz.oneCell' = true) := hid (fun zz hv => ncs_one [(0, 0, zv)] zz (by simpa [ncs] using hv))
      obtain ⟨nc, hnc⟩ : ∃ nc, nc = ncells (0, 0, zv) := ⟨_, rfl⟩
      rw [← hnc] at f4 HF HSZ HONE
      have HNC := hid hnc
      clear hnc f1 f2 f3
      go_wp2_with (first
        | (refine wpList_load_mid rfl 73 (.tmp 3) rfl G3 0 rfl nc _ f4 hu rfl (by rw [HSZ.out]; exact info_node) ?_)
        | (refine wpList_store_mid rfl 73 (.tmp 2) (.tmp 56) rfl w.heap.size 0 nc.toArray rfl rfl (by simpa [HSZ.out] using f5) (by simpa [HSZ.out] using info_node) (all_oneCell_toArray HONE.out) ?_)
        | fail)
      exact bodyPost_ret (v := .agg nc.toArray) (results_blk (q := 2) rfl _ _ w.heap.size nc _ rfl HF.out.1 hu rfl (by rw [HSZ.out]; exact info_node)) rfl ⟨by rw [HNC.out, ← HQ1.out], by rw [HQ2.out, HQ3.out]; exact HF.out.2.1, HF.out.2.2⟩
    · have bz : (ez == 0) = false := by simp [hz]
      have HE3 : Hid (failOut ez 3 = ez) := hid (failOut_not _ _ hz)
      rw [HE3.out] at HQ3
      clear hz
      obtain ⟨f1, f2, f3, f4, f5⟩ := HS1.out.out
      have HF := hid (And.intro f1 (And.intro f2 f3))
      have HSZ : Hid ((ncells (0, 0, zv)).length = 5) := hid rfl
      have HONE : Hid (∀ zz ∈ ncells (0, 0, zv), zz.oneCell' = true) := hid (fun zz hv => ncs_one [(0, 0, zv)] zz (by simpa [ncs] using hv))
      obtain ⟨nc, hnc⟩ : ∃ nc, nc = ncells (0, 0, zv) := ⟨_, rfl⟩
      rw [← hnc] at f4 HF HSZ HONE
      have HNC := hid hnc
      clear hnc f1 f2 f3
      go_wp2_with (first
        | (refine wpList_store_mid rfl 73 (.tmp 3) (.tmp 6) rfl w1.heap.size 0 _ rfl rfl (by rw [← HG3.out]; exact TH3) (by exact info_node) (by simp [Value.oneCell']) ?_
           rw [← HG3.out]
           rw [show (w1.alloc (.cells #[.int .i64 0, .int .i64 0, .int .i64 0, .int .i64 0, .string ⟨#[]⟩] 73)).setCells G3 0 (#[.int .i64 0, .int .i64 0, .int .i64 0, .int .i64 0, .string ⟨#[]⟩] : Array Value).toList = W1 from HW1.out.symm])
        | (refine wpList_load_mid rfl 73 (.tmp 3) rfl G3 0 rfl nc _ f4 hu rfl (by rw [HSZ.out]; exact info_node) ?_)
        | (refine wpList_store_mid rfl 73 (.tmp 2) (.tmp 56) rfl w.heap.size 0 nc.toArray rfl rfl (by simpa [HSZ.out] using f5) (by simpa [HSZ.out] using info_node) (all_oneCell_toArray HONE.out) ?_)
        | fail)
      exact bodyPost_ret (v := .agg nc.toArray) (results_blk (q := 2) rfl _ _ w.heap.size nc _ rfl HF.out.1 hu rfl (by rw [HSZ.out]; exact info_node)) rfl ⟨by rw [HNC.out, ← HQ1.out], by rw [HQ2.out, HQ3.out]; exact HF.out.2.1, HF.out.2.2⟩
  · have hz0 : ez = 0 := by
      by_cases hz : ez = 0
      · exact hz
      · exact absurd (HERR.out hz) h0
    have HA0 : Hid (neA l a = 0) := hid (by rw [HNE.out, if_neg h0]; exact hz0)
    subst hz0
    have bop : ((ndA l a : Int) == 0) = false := by simp [h0]
    have bopn : (ndA l a == 0) = false := by simp [h0]
    clear HNE HERR h0
    cases hN : hasN (ndA l a : Int) with
    | false =>
      have hV : hasV (ndA l a : Int) = false := by
        cases hV : hasV (ndA l a : Int) with
        | false => rfl
        | true => rw [hasV_N hV] at hN; cases hN
      have eB : nB l a = (0, naA l a, 0) := by unfold nB; rw [if_neg (by rw [hN]; simp), HA0.out]
      have eV : nV l a = (zv, naA l a, 0) := by unfold nV; rw [if_neg (by rw [hV]; simp), eB]
      have hok := nok_plain (l := l) (a := a) (by rw [eB]) hV
      have en : nodeOut l a = (((ndA l a : Int), 0, zv), naA l a, 0) := by unfold nodeOut; rw [if_pos hok, eV]; unfold ndOf; rw [eB, eV]; rfl
      have HQ1 : Hid (nd4 = ((ndA l a : Int), 0, zv)) := hid (by have := HQ.out; rw [en] at this; injection this)
      have HQ2 : Hid (a4 = naA l a) := hid (by have := HQ.out; rw [en] at this; injection this with _ h; injection h)
      have HQ3 : Hid (e4 = 0) := hid (by have := HQ.out; rw [en] at this; injection this with _ h; injection h)
      have hNN := of_decide_eq_false (show decide (3 ≤ (ndA l a : Int) ∧ (ndA l a : Int) ≤ 9) = false from hN)
      generalize naA l a = aA at HS1 HQ2
      clear hN hV eB eV hok en
      generalize ndA l a = op at HS1 HW1 q0 bop bopn HQ1 hNN ⊢
      by_cases h3 : 3 ≤ op
      · have d3 : decide ((3 : Int) ≤ (op : Int)) = true := by simp; omega
        have d6 : decide ((6 : Int) ≤ (op : Int)) = true := by simp; omega
        have d9 : decide ((op : Int) ≤ 9) = false := by simp; omega
        have n3 : decide (3 ≤ op) = true := by simp; omega
        have n6 : decide (6 ≤ op) = true := by simp; omega
        have n9 : decide (op ≤ 9) = false := by simp; omega
        clear h3 hNN
        obtain ⟨f1, f2, f3, f4, f5⟩ := HS1.out.out
        have HF := hid (And.intro f1 (And.intro f2 f3))
        have HSZ : Hid ((ncells ((op : Int), 0, zv)).length = 5) := hid rfl
        have HONE : Hid (∀ zz ∈ ncells ((op : Int), 0, zv), zz.oneCell' = true) := hid (fun zz hv => ncs_one [((op : Int), 0, zv)] zz (by simpa [ncs] using hv))
        obtain ⟨nc, hnc⟩ : ∃ nc, nc = ncells ((op : Int), 0, zv) := ⟨_, rfl⟩
        rw [← hnc] at f4 HF HSZ HONE
        have HNC := hid hnc
        clear hnc f1 f2 f3
        go_wp2_with (first
          | (refine wpList_store_mid rfl 73 (.tmp 3) (.tmp 6) rfl w1.heap.size 0 _ rfl rfl (by rw [← HG3.out]; exact TH3) (by exact info_node) (by simp [Value.oneCell']) ?_
             rw [← HG3.out]
             rw [show (w1.alloc (.cells #[.int .i64 0, .int .i64 0, .int .i64 0, .int .i64 0, .string ⟨#[]⟩] 73)).setCells G3 0 (#[.int .i64 op, .int .i64 0, .int .i64 0, .int .i64 0, .string ⟨#[]⟩] : Array Value).toList = W1 from HW1.out.symm])
          | (refine wpList_load_mid rfl 73 (.tmp 3) rfl G3 0 rfl nc _ f4 hu rfl (by rw [HSZ.out]; exact info_node) ?_)
          | (refine wpList_store_mid rfl 73 (.tmp 2) (.tmp 56) rfl w.heap.size 0 nc.toArray rfl rfl (by simpa [HSZ.out] using f5) (by simpa [HSZ.out] using info_node) (all_oneCell_toArray HONE.out) ?_)
          | fail)
        exact bodyPost_ret (v := .agg nc.toArray) (results_blk (q := 2) rfl _ _ w.heap.size nc _ rfl HF.out.1 hu rfl (by rw [HSZ.out]; exact info_node)) rfl ⟨by rw [HNC.out, ← HQ1.out], by rw [HQ2.out, HQ3.out]; exact HF.out.2.1, HF.out.2.2⟩
      · have d3 : decide ((3 : Int) ≤ (op : Int)) = false := by simp; omega
        have d6 : decide ((6 : Int) ≤ (op : Int)) = false := by simp; omega
        have n3 : decide (3 ≤ op) = false := by simp; omega
        have n6 : decide (6 ≤ op) = false := by simp; omega
        clear h3 hNN
        obtain ⟨f1, f2, f3, f4, f5⟩ := HS1.out.out
        have HF := hid (And.intro f1 (And.intro f2 f3))
        have HSZ : Hid ((ncells ((op : Int), 0, zv)).length = 5) := hid rfl
        have HONE : Hid (∀ zz ∈ ncells ((op : Int), 0, zv), zz.oneCell' = true) := hid (fun zz hv => ncs_one [((op : Int), 0, zv)] zz (by simpa [ncs] using hv))
        obtain ⟨nc, hnc⟩ : ∃ nc, nc = ncells ((op : Int), 0, zv) := ⟨_, rfl⟩
        rw [← hnc] at f4 HF HSZ HONE
        have HNC := hid hnc
        clear hnc f1 f2 f3
        go_wp2_with (first
          | (refine wpList_store_mid rfl 73 (.tmp 3) (.tmp 6) rfl w1.heap.size 0 _ rfl rfl (by rw [← HG3.out]; exact TH3) (by exact info_node) (by simp [Value.oneCell']) ?_
             rw [← HG3.out]
             rw [show (w1.alloc (.cells #[.int .i64 0, .int .i64 0, .int .i64 0, .int .i64 0, .string ⟨#[]⟩] 73)).setCells G3 0 (#[.int .i64 op, .int .i64 0, .int .i64 0, .int .i64 0, .string ⟨#[]⟩] : Array Value).toList = W1 from HW1.out.symm])
          | (refine wpList_load_mid rfl 73 (.tmp 3) rfl G3 0 rfl nc _ f4 hu rfl (by rw [HSZ.out]; exact info_node) ?_)
          | (refine wpList_store_mid rfl 73 (.tmp 2) (.tmp 56) rfl w.heap.size 0 nc.toArray rfl rfl (by simpa [HSZ.out] using f5) (by simpa [HSZ.out] using info_node) (all_oneCell_toArray HONE.out) ?_)
          | fail)
        exact bodyPost_ret (v := .agg nc.toArray) (results_blk (q := 2) rfl _ _ w.heap.size nc _ rfl HF.out.1 hu rfl (by rw [HSZ.out]; exact info_node)) rfl ⟨by rw [HNC.out, ← HQ1.out], by rw [HQ2.out, HQ3.out]; exact HF.out.2.1, HF.out.2.2⟩
    | true =>
      have hNN := of_decide_eq_true (show decide (3 ≤ (ndA l a : Int) ∧ (ndA l a : Int) ≤ 9) = true from hN)
      have HM := hid (fun wx : World => rmost_any (ndA l a : Int) wx hN)
      have eB : nB l a = numOut l (naA l a) 0 (npm (ndA l a : Int)) := by unfold nB; rw [if_pos hN, HA0.out]
      have HN2 := hid (fun wx (hx : Rr wx base g (l.drop (naA l a)) 0) => rr_numd base g l (naA l a) 0 (npm (ndA l a : Int)) wx hx hm)
      rw [← eB] at HN2
      have d3 : decide ((3 : Int) ≤ (ndA l a : Int)) = true := by simp; omega
      have d9 : decide ((ndA l a : Int) ≤ 9) = true := by simp; omega
      have n3 : decide (3 ≤ ndA l a) = true := by simp; omega
      have n9 : decide (ndA l a ≤ 9) = true := by simp; omega
      have HV2 := hid (fun wx (hx : Rr wx base g (l.drop (nB l a).2.1) (nB l a).2.2) => rr_value base g l (nB l a).2.1 (nB l a).2.2 wx hx HBA.out hm)
      cases hV : hasV (ndA l a : Int) with
      | false =>
        have hVV := of_decide_eq_false (show decide (6 ≤ (ndA l a : Int) ∧ (ndA l a : Int) ≤ 9) = false from hV)
        have d6 : decide ((6 : Int) ≤ (ndA l a : Int)) = false := by simp; omega
        have n6 : decide (6 ≤ ndA l a) = false := by simp; omega
        have eV : nV l a = (zv, (nB l a).2) := by unfold nV; rw [if_neg (by rw [hV]; simp)]
        have en : nodeOut l a = (((ndA l a : Int), ((nB l a).1 : Int), zv), (nB l a).2.1, (nB l a).2.2) := by
          have e1 : (nodeOut l a).1 = ((ndA l a : Int), ((nB l a).1 : Int), zv) := by show ndOf l a = _; unfold ndOf; rw [eV]
          have e2 : (nodeOut l a).2 = (nB l a).2 := by
            by_cases hz : (nB l a).2.2 = 0
            · have hok := nok_plain hz hV
              unfold nodeOut
              rw [if_pos hok, eV]
            · exact nB_stop hz
          rw [← e1, ← e2]
        have HQ1 : Hid (nd4 = ((ndA l a : Int), ((nB l a).1 : Int), zv)) := hid (by have := HQ.out; rw [en] at this; injection this)
        have HQ2 : Hid (a4 = (nB l a).2.1) := hid (by have := HQ.out; rw [en] at this; injection this with _ h; injection h)
        have HQ3 : Hid (e4 = (nB l a).2.2) := hid (by have := HQ.out; rw [en] at this; injection this with _ h; injection h)
        clear HV2
        obtain ⟨⟨m, a2, e2⟩, hq2⟩ : ∃ q, q = nB l a := ⟨_, rfl⟩
        rw [← hq2] at HN2 HQ1 HQ2 HQ3
        simp only at HN2 HQ1 HQ2 HQ3
        generalize naA l a = aA at HS1 HN2
        generalize npm (ndA l a : Int) = mm at HM HN2
        clear hN hV eB eV en hNN hVV hq2
        generalize ndA l a = op at HS1 HW1 q0 bop bopn HQ1 HM d3 d9 d6 n3 n6 n9 ⊢
        go_wp2_with (first
          | (refine wpList_store_mid rfl 73 (.tmp 3) (.tmp 6) rfl w1.heap.size 0 _ rfl rfl (by rw [← HG3.out]; exact TH3) (by exact info_node) (by simp [Value.oneCell']) ?_
             rw [← HG3.out]
             rw [show (w1.alloc (.cells #[.int .i64 0, .int .i64 0, .int .i64 0, .int .i64 0, .string ⟨#[]⟩] 73)).setCells G3 0 (#[.int .i64 op, .int .i64 0, .int .i64 0, .int .i64 0, .string ⟨#[]⟩] : Array Value).toList = W1 from HW1.out.symm])
          | fail)
        refine (HM.out _).mono ?_
        rintro e w' ⟨rfl, rfl⟩
        go_wp2_with fail
        refine (HN2.out _ HS1.out.rr).mono ?_
        rintro e w3 ⟨rfl, hr3, hg3⟩
        have S2 := HS1.out.read hr3 hg3
        have HS3 := hid (S2.cell (nd' := ((op : Int), (m : Int), zv)) 1 (.int .i64 (m : Int)) rfl)
        have x0 := S2.b3.frozen 1
        have x1 := S2.b3.cell (j := 1) rfl
        have q0 := HS3.out.b3.cell (j := 0) rfl
        clear hr3 hg3 S2 HS1 HM HN2
        obtain ⟨f1, f2, f3, f4, f5⟩ := HS3.out.out
        have HF := hid (And.intro f1 (And.intro f2 f3))
        have HSZ : Hid ((ncells ((op : Int), (m : Int), zv)).length = 5) := hid rfl
        have HONE : Hid (∀ zz ∈ ncells ((op : Int), (m : Int), zv), zz.oneCell' = true) := hid (fun zz hv => ncs_one [((op : Int), (m : Int), zv)] zz (by simpa [ncs] using hv))
        obtain ⟨nc, hnc⟩ : ∃ nc, nc = ncells ((op : Int), (m : Int), zv) := ⟨_, rfl⟩
        rw [← hnc] at f4 HF HSZ HONE
        have HNC := hid hnc
        clear hnc f1 f2 f3
        go_wp2_with (first
          | (refine wpList_load_mid rfl 73 (.tmp 3) rfl G3 0 rfl nc _ f4 hu rfl (by rw [HSZ.out]; exact info_node) ?_)
          | (refine wpList_store_mid rfl 73 (.tmp 2) (.tmp 56) rfl w.heap.size 0 nc.toArray rfl rfl (by simpa [HSZ.out] using f5) (by simpa [HSZ.out] using info_node) (all_oneCell_toArray HONE.out) ?_)
          | fail)
        exact bodyPost_ret (v := .agg nc.toArray) (results_blk (q := 2) rfl _ _ w.heap.size nc _ rfl HF.out.1 hu rfl (by rw [HSZ.out]; exact info_node)) rfl ⟨by rw [HNC.out, ← HQ1.out], by rw [HQ2.out, HQ3.out]; exact HF.out.2.1, HF.out.2.2⟩
      | true =>
        have hVV := of_decide_eq_true (show decide (6 ≤ (ndA l a : Int) ∧ (ndA l a : Int) ≤ 9) = true from hV)
        have d6 : decide ((6 : Int) ≤ (ndA l a : Int)) = true := by simp; omega
        have n6 : decide (6 ≤ ndA l a) = true := by simp; omega
        have eV : nV l a = valOut l (nB l a).2.1 (nB l a).2.2 := by unfold nV; rw [if_pos hV]
        rw [← eV] at HV2
        have HND := hid (fun wx : World => rnode_any (ndOf l a) wx)
        have e3 : ndOf l a = ((ndA l a : Int), ((nB l a).1 : Int), (nV l a).1) := rfl
        have en : nodeOut l a = (ndOf l a, (nV l a).2.1, if nok (ndOf l a) = true then (nV l a).2.2 else failOut (nV l a).2.2 3) := rfl
        have HQ1 : Hid (nd4 = ndOf l a) := hid (by have := HQ.out; rw [en] at this; injection this)
        have HQ2 : Hid (a4 = (nV l a).2.1) := hid (by have := HQ.out; rw [en] at this; injection this with _ h; injection h)
        have HQ3 : Hid (e4 = if nok (ndOf l a) = true then (nV l a).2.2 else failOut (nV l a).2.2 3) := hid (by have := HQ.out; rw [en] at this; injection this with _ h; injection h)
        rw [e3] at HND HQ1 HQ3
        obtain ⟨ok, hok⟩ : ∃ ok, ok = nok ((ndA l a : Int), ((nB l a).1 : Int), (nV l a).1) := ⟨_, rfl⟩
        rw [← hok] at HND HQ3
        obtain ⟨⟨v, a3, e5⟩, hq3⟩ : ∃ q, q = nV l a := ⟨_, rfl⟩
        rw [← hq3] at HV2 HND HQ1 HQ2 HQ3
        simp only at HV2 HND HQ1 HQ2 HQ3
        obtain ⟨⟨m, a2, e2⟩, hq2⟩ : ∃ q, q = nB l a := ⟨_, rfl⟩
        rw [← hq2] at HN2 HV2 HND HQ1
        simp only at HN2 HV2 HND HQ1
        generalize naA l a = aA at HS1 HN2
        generalize npm (ndA l a : Int) = mm at HM HN2
        clear hN hV eB eV en hNN hVV hq2 hq3 e3 hok
        generalize ndA l a = op at HS1 HW1 q0 bop bopn HQ1 HM HND d3 d9 d6 n3 n6 n9 ⊢
        have HVC : Hid ((vcells v).length = 3) := hid rfl
        have HONV : Hid (∀ u ∈ vcells v, u.oneCell' = true) := hid (fun u hu => fcells_one [v] u (by simpa [fcells] using hu))
        go_wp2_with (first
          | (refine wpList_store_mid rfl 73 (.tmp 3) (.tmp 6) rfl w1.heap.size 0 _ rfl rfl (by rw [← HG3.out]; exact TH3) (by exact info_node) (by simp [Value.oneCell']) ?_
             rw [← HG3.out]
             rw [show (w1.alloc (.cells #[.int .i64 0, .int .i64 0, .int .i64 0, .int .i64 0, .string ⟨#[]⟩] 73)).setCells G3 0 (#[.int .i64 op, .int .i64 0, .int .i64 0, .int .i64 0, .string ⟨#[]⟩] : Array Value).toList = W1 from HW1.out.symm])
          | fail)
        refine (HM.out _).mono ?_
        rintro e w' ⟨rfl, rfl⟩
        go_wp2_with fail
        refine (HN2.out _ HS1.out.rr).mono ?_
        rintro e w3 ⟨rfl, hr3, hg3⟩
        have S2 := HS1.out.read hr3 hg3
        have HS3 := hid (S2.cell (nd' := ((op : Int), (m : Int), zv)) 1 (.int .i64 (m : Int)) rfl)
        have x0 := S2.b3.frozen 1
        have x1 := S2.b3.cell (j := 1) rfl
        have q0 := HS3.out.b3.cell (j := 0) rfl
        clear hr3 hg3 S2 HS1 HM HN2
        go_wp2_with fail
        refine (HV2.out _ HS3.out.rr).mono ?_
        rintro e w4 ⟨rfl, hr4, hg4⟩
        have S4 := HS3.out.read hr4 hg4
        have HS5 := hid (S4.val v)
        have TH5 := S4.b3.there 2 3 (by rw [ncells_len]; omega)
        have y1 := HS5.out.rr.facts.2.1
        have RG5 := HS5.out.b3.range 0 _ (by rw [List.drop_zero, List.take_length])
        simp only at HS5 y1 RG5
        have HSZ5 : Hid ((ncells ((op : Int), (m : Int), v)).length = 5) := hid rfl
        have HONE5 : Hid (∀ u ∈ ncells ((op : Int), (m : Int), v), u.oneCell' = true) := hid (fun u hu => ncs_one [((op : Int), (m : Int), v)] u (by simpa [ncs] using hu))
        obtain ⟨vc, hvc⟩ : ∃ vc, vc = vcells v := ⟨_, rfl⟩
        rw [← hvc] at HS5 y1 RG5 HVC HONV ⊢
        obtain ⟨n5, hn5⟩ : ∃ n5, n5 = ncells ((op : Int), (m : Int), v) := ⟨_, rfl⟩
        rw [← hn5] at RG5 HSZ5 HND HONE5
        have HN5 := hid hn5
        clear hr4 hg4 S4 HS3 HV2 hn5 hvc q0
        by_cases hz : e5 = 0
        · subst hz
          cases ok with
          | true =>
            rw [if_pos rfl] at HQ3
            go_wp2_with (first
              | (refine wpList_store_mid rfl 33 (.tmp 43) (.tmp 42) rfl G3 2 vc.toArray rfl rfl (by simpa [HVC.out] using TH5) (by simpa [HVC.out] using info_val3) (all_oneCell_toArray HONV.out) ?_)
              | (refine wpList_load_g (by rfl) 73 (.tmp 3) rfl G3 0 rfl n5 _ RG5 hu rfl (by rw [HSZ5.out]; exact info_node) ?_)
              | fail)
            refine (HND.out _).mono ?_
            rintro e w6 ⟨rfl, hb6⟩
            have HS6 := hid (HS5.out.calm hb6)
            clear RG5 TH5 hb6 HS5 y1
            obtain ⟨f1, f2, f3, f4, f5⟩ := HS6.out.out
            have HF := hid (And.intro f1 (And.intro f2 f3))
            have HSZ : Hid ((ncells ((op : Int), (m : Int), v)).length = 5) := hid rfl
            have HONE : Hid (∀ zz ∈ ncells ((op : Int), (m : Int), v), zz.oneCell' = true) := hid (fun zz hv => ncs_one [((op : Int), (m : Int), v)] zz (by simpa [ncs] using hv))
            obtain ⟨nc, hnc⟩ : ∃ nc, nc = ncells ((op : Int), (m : Int), v) := ⟨_, rfl⟩
            rw [← hnc] at f4 HF HSZ HONE
            have HNC := hid hnc
            clear hnc f1 f2 f3
            go_wp2_with (first
              | (refine wpList_load_mid rfl 73 (.tmp 3) rfl G3 0 rfl nc _ f4 hu rfl (by rw [HSZ.out]; exact info_node) ?_)
              | (refine wpList_store_mid rfl 73 (.tmp 2) (.tmp 56) rfl w.heap.size 0 nc.toArray rfl rfl (by simpa [HSZ.out] using f5) (by simpa [HSZ.out] using info_node) (all_oneCell_toArray HONE.out) ?_)
              | fail)
            exact bodyPost_ret (v := .agg nc.toArray) (results_blk (q := 2) rfl _ _ w.heap.size nc _ rfl HF.out.1 hu rfl (by rw [HSZ.out]; exact info_node)) rfl ⟨by rw [HNC.out, ← HQ1.out], by rw [HQ2.out, HQ3.out]; exact HF.out.2.1, HF.out.2.2⟩
          | false =>
            rw [if_neg (by simp), failOut_zero] at HQ3
            go_wp2_with (first
              | (refine wpList_store_mid rfl 33 (.tmp 43) (.tmp 42) rfl G3 2 vc.toArray rfl rfl (by simpa [HVC.out] using TH5) (by simpa [HVC.out] using info_val3) (all_oneCell_toArray HONV.out) ?_)
              | (refine wpList_load_g (by rfl) 73 (.tmp 3) rfl G3 0 rfl n5 _ RG5 hu rfl (by rw [HSZ5.out]; exact info_node) ?_)
              | fail)
            refine (HND.out _).mono ?_
            rintro e w6 ⟨rfl, hb6⟩
            have HS6 := hid (HS5.out.calm hb6)
            clear RG5 TH5 hb6 HS5 y1
            go_wp2_with fail
            refine (rr_fail base g (l.drop a3) 0 3 _ HS6.out.rr).mono ?_
            rintro e w7 ⟨rfl, hr7, hg7⟩
            have HS7 := hid (HS6.out.read hr7 hg7)
            clear hr7 hg7 HS6
            obtain ⟨f1, f2, f3, f4, f5⟩ := HS7.out.out
            have HF := hid (And.intro f1 (And.intro f2 f3))
            have HSZ : Hid ((ncells ((op : Int), (m : Int), v)).length = 5) := hid rfl
            have HONE : Hid (∀ zz ∈ ncells ((op : Int), (m : Int), v), zz.oneCell' = true) := hid (fun zz hv => ncs_one [((op : Int), (m : Int), v)] zz (by simpa [ncs] using hv))
            obtain ⟨nc, hnc⟩ : ∃ nc, nc = ncells ((op : Int), (m : Int), v) := ⟨_, rfl⟩
            rw [← hnc] at f4 HF HSZ HONE
            have HNC := hid hnc
            clear hnc f1 f2 f3
            go_wp2_with (first
              | (refine wpList_load_mid rfl 73 (.tmp 3) rfl G3 0 rfl nc _ f4 hu rfl (by rw [HSZ.out]; exact info_node) ?_)
              | (refine wpList_store_mid rfl 73 (.tmp 2) (.tmp 56) rfl w.heap.size 0 nc.toArray rfl rfl (by simpa [HSZ.out] using f5) (by simpa [HSZ.out] using info_node) (all_oneCell_toArray HONE.out) ?_)
              | fail)
            exact bodyPost_ret (v := .agg nc.toArray) (results_blk (q := 2) rfl _ _ w.heap.size nc _ rfl HF.out.1 hu rfl (by rw [HSZ.out]; exact info_node)) rfl ⟨by rw [HNC.out, ← HQ1.out], by rw [HQ2.out, HQ3.out]; exact HF.out.2.1, HF.out.2.2⟩
        · have bz : (e5 == 0) = false := by simp [hz]
          have HQ4 : Hid (e4 = e5) := Lib.hid (by rw [HQ3.out]; cases ok with
            | true => rfl
            | false => rw [if_neg (by simp), failOut_not _ _ hz])
          have HQ3 := HQ4
          clear hz
          obtain ⟨f1, f2, f3, f4, f5⟩ := HS5.out.out
          have HF := hid (And.intro f1 (And.intro f2 f3))
          rw [← HN5.out] at f4 HF
          clear f1 f2 f3
          go_wp2_with (first
            | (refine wpList_store_mid rfl 33 (.tmp 43) (.tmp 42) rfl G3 2 vc.toArray rfl rfl (by simpa [HVC.out] using TH5) (by simpa [HVC.out] using info_val3) (all_oneCell_toArray HONV.out) ?_)
            | (refine wpList_load_mid rfl 73 (.tmp 3) rfl G3 0 rfl n5 _ f4 hu rfl (by rw [HSZ5.out]; exact info_node) ?_)
            | (refine wpList_store_mid rfl 73 (.tmp 2) (.tmp 56) rfl w.heap.size 0 n5.toArray rfl rfl (by simpa [HSZ5.out] using f5) (by simpa [HSZ5.out] using info_node) (all_oneCell_toArray HONE5.out) ?_)
            | fail)
          exact bodyPost_ret (v := .agg n5.toArray) (results_blk (q := 2) rfl _ _ w.heap.size n5 _ rfl HF.out.1 hu rfl (by rw [HSZ5.out]; exact info_node)) rfl ⟨by rw [HN5.out, ← HQ1.out], by rw [HQ2.out, HQ3.out]; exact HF.out.2.1, HF.out.2.2⟩
def NodesReadR (w : World) (base g : Nat) (l : List UInt8) (q : List Nd × Nat × Int) : Ending → World → Prop := fun x w' => (∃ A c, x = .returned (.slice A q.1.length c) ∧ w'.ownsRow w.heap.size 73 5 (.slice A q.1.length c) q.1.length (ncs q.1)) ∧ Rr w' base g (l.drop q.2.1) q.2.2 ∧ w.grownBy w' (some g)
theorem rr_filter (base g : Nat) (l : List UInt8) (a : Nat) (e : Int) (w : World) (h : Rr w base g (l.drop a) e) (ha : a ≤ l.length) (hm : l.length ≤ 4000) :
    Calls Tryz.prog 24 #[.pointer (some ⟨g, 0, none⟩)] w (NodesReadR w base g l (filtOut l a e)) := by
  obtain ⟨i1, ji, jz0, jz1, jz2⟩ := info_parts info_noded
  have hu := Tryz.underlying73
  have hgl := h.block.2
  have HNUM := hid (rr_numd base g l a e 31 w h hm)
  have hny := mny_le l a e
  have hna := mny_at (e := e) ha
  obtain ⟨n, hn0⟩ : ∃ n, n = (mny l a e).1 := ⟨_, rfl⟩
  obtain ⟨a0, ha0⟩ : ∃ x, x = (mny l a e).2.1 := ⟨_, rfl⟩
  obtain ⟨e0, he0⟩ : ∃ x, x = (mny l a e).2.2 := ⟨_, rfl⟩
  obtain ⟨ez, hez⟩ : ∃ ez, ez = (numOut l a e 31).2.2 := ⟨_, rfl⟩
  have e1 : (numOut l a e 31).1 = n := by rw [hn0]; rfl
  have e2 : (numOut l a e 31).2.1 = a0 := by rw [ha0]; rfl
  have HE0 : Hid (e0 = if n = 0 then failOut ez 3 else ez) := hid (by rw [he0, hez, ← e1]; rfl)
  have HZ : Hid (n = 0 → e0 ≠ 0) := hid (fun hz => by rw [he0]; exact mny_none (by rw [← hn0]; exact hz))
  have HZ' : Hid (e0 ≠ 0 → n = 0) := hid (fun hz => by rw [hn0]; exact mny_err (by rw [← he0]; exact hz))
  obtain ⟨Q, hQ⟩ : ∃ Q, Q = filtOut l a e := ⟨_, rfl⟩
  have HQ0 : Hid (e0 ≠ 0 → Q = ([], a0, e0)) := hid (fun hz => by rw [hQ]; unfold filtOut; rw [if_pos (by rw [← he0]; exact hz), ha0, he0])
  have HQ1 : Hid (e0 = 0 → (nodesOut l n a0).2.2 ≠ 0 → Q = ([], (nodesOut l n a0).2)) := hid (fun hz h2 => by rw [hQ]; unfold filtOut; rw [if_neg (by rw [← he0]; simpa using hz), ← hn0, ← ha0, if_pos h2])
  have HQ2 : Hid (e0 = 0 → (nodesOut l n a0).2.2 = 0 → lchk (nodesOut l n a0).1 = 0 → Q = nodesOut l n a0) := hid (fun hz h2 h3 => by rw [hQ]; unfold filtOut; rw [if_neg (by rw [← he0]; simpa using hz), ← hn0, ← ha0, if_neg (by simpa using h2), if_pos h3])
  have HQ3 : Hid (e0 = 0 → (nodesOut l n a0).2.2 = 0 → lchk (nodesOut l n a0).1 ≠ 0 → Q = ([], (nodesOut l n a0).2.1, if lchk (nodesOut l n a0).1 = 1 then 3 else lchk (nodesOut l n a0).1)) := hid (fun hz h2 h3 => by rw [hQ]; unfold filtOut; rw [if_neg (by rw [← he0]; simpa using hz), ← hn0, ← ha0, if_neg (by simpa using h2), if_neg h3])
  rw [← hQ]
  rw [← hn0] at hny
  rw [← ha0] at hna
  rw [e1, e2, ← hez] at HNUM
  have HF := hid (fun (wx : World) (hr : Rr wx base g (l.drop a0) ez) => rr_fail base g (l.drop a0) ez 3 wx hr)
  -- what the loop keeps
  obtain ⟨J, hJ⟩ : ∃ J : Nat → List Nd → Nat → Int → Prop, J = fun k ns a' E => (E = 0 ∧ nodesOut l k a0 = (ns, a', 0) ∧ e0 = 0) ∨ (E ≠ 0 ∧ Q = ([], a', E)) := ⟨_, rfl⟩
  have HJ := hid hJ
  have HGLT := hid hgl
  clear hQ hn0 ha0 he0 hez e1 e2 h hJ
  unfold NodesReadR
  go_enter Tryz.func24, Tryz.ntmps24
  go_wp2_with fail
  refine HNUM.out.mono ?_
  rintro e w1 ⟨rfl, hr1, hg1⟩
  clear HNUM
  have x1 := hr1.facts.2.1
  have HSTART : Hid (∀ wx : World, Rr wx base g (l.drop a0) e0 → w.grownBy wx (some g) → ∃ (k a' : Nat) (ns : List Nd) (E : Int) (AO : Option Addr) (cO : Nat), k ≤ n ∧ (Value.int .i64 0) = .int .i64 k ∧ (Value.slice (some ⟨wx.heap.size, 0, none⟩) 0 0) = .slice AO k cO ∧ Hid (J k ns a' E) ∧ ns.length = k ∧ a' ≤ l.length ∧ (wx.alloc (.cells #[] 73)).ownsRow w.heap.size 73 5 (.slice AO k cO) k (ncs ns) ∧ Rr (wx.alloc (.cells #[] 73)) base g (l.drop a') E ∧ w.grownBy (wx.alloc (.cells #[] 73)) (some g)) := Lib.hid (fun wx hr hg => by
    have hb := (Below.refl wx.heap.size wx).alloc (Nat.le_refl _) (.cells #[] 73)
    refine ⟨0, a0, [], e0, _, _, Nat.zero_le _, rfl, rfl, hid ?_, rfl, hna, row_lit wx w.heap.size 73 5 0 #[] hg.size (by simp [maxLen]) rfl, hr.later hb, grown_onto hg hb⟩
    rw [HJ.out]
    by_cases hz : e0 = 0
    · exact .inl ⟨hz, rfl, hz⟩
    · exact .inr ⟨hz, HQ0.out hz⟩)
  by_cases h0 : n = 0
  · have HE : Hid (e0 = failOut ez 3) := hid (by rw [HE0.out, if_pos h0])
    have bn : ((n : Int) == 0) = true := by simp [h0]
    have bnn : (n == 0) = true := by simp [h0]
    by_cases hz : ez = 0
    · subst hz
      clear h0
      go_wp2_with fail
      refine (HF.out _ hr1).mono ?_
      rintro e w2 ⟨rfl, hr2, hg2⟩
      rw [← HE.out] at hr2
      have HR2 := hid hr2
      have HG2 := hid (hg1.trans hg2)
      clear hr1 hg1 hg2 hr2 x1
      go_wp2_with fail
      go_loopw [5, 4] (fun i v wr => ∃ (k a' : Nat) (ns : List Nd) (E : Int) (AO : Option Addr) (cO : Nat), k ≤ n ∧ i = .int .i64 k ∧ v = .slice AO k cO ∧ Hid (J k ns a' E) ∧ ns.length = k ∧ a' ≤ l.length ∧ wr.ownsRow w.heap.size 73 5 (.slice AO k cO) k (ncs ns) ∧ Rr wr base g (l.drop a') E ∧ w.grownBy wr (some g)) (fun i _ _ => n - (intOf i).toNat)
      case atStart => exact HSTART.out _ HR2.out HG2.out
      case round =>
        obtain ⟨k, a', ns, E, AO, cO, hk, rfl, rfl, HS, hnsl, ha', hrow, hr, hgr⟩ := hrel
        have HNS : Hid (ns.length = k) := hid hnsl
        have hwz := hgr.size
        have x1 := hr.facts.2.1
        have hJ := HS.out
        rw [HJ.out] at hJ
        clear hnsl
        rcases hJ with ⟨rfl, hS, hE00⟩ | ⟨hE, hQQ⟩
        · have HS2 := hid hS
          have HE00 := hid hE00
          clear hS hE00 HS
          by_cases hlt : k < n
          · have d1 : decide ((k : Int) < (n : Int)) = true := by simp; omega
            have HN := hid (rr_node base g l a' wr hr ha' hm)
            have hqa : (nodeOut l a').2.1 ≤ l.length := nodeOut_at ha'
            have HSTEP : Hid (nodesOut l (k + 1) a0 = (ns ++ [(nodeOut l a').1], (nodeOut l a').2)) := hid (by have := nodes_step (l := l) (a := a0) (k := k) (by rw [HS2.out]); rw [HS2.out] at this; exact this)
            have HSTOP : Hid ((nodeOut l a').2.2 ≠ 0 → Q = ([], (nodeOut l a').2)) := Lib.hid (fun hz => by
              have h1 := nodes_stuck (l := l) (a := a0) (k := k + 1) (by rw [HSTEP.out]; exact hz) n (by omega)
              rw [HSTEP.out] at h1
              have h2 := HQ1.out HE00.out (by rw [h1]; exact hz)
              rw [h2, h1])
            obtain ⟨⟨⟨o1, m1, y0, y1, y2⟩, a3, e3⟩, hq3⟩ : ∃ q, q = nodeOut l a' := ⟨_, rfl⟩
            rw [← hq3] at HN HSTEP HSTOP hqa
            simp only at HN HSTEP HSTOP hqa
            have HN1 : Hid (Calls Tryz.prog 56 #[.pointer (some ⟨g, 0, none⟩)] wr fun x w' => x = .returned (.agg #[.int .i64 o1, .int .i64 m1, .int .i64 y0, .int .i64 y1, .string y2]) ∧ Rr w' base g (l.drop a3) e3 ∧ wr.grownBy w' (some g)) := hid HN.out
            have HNC : Hid (ncs ns ++ [.int .i64 o1, .int .i64 m1, .int .i64 y0, .int .i64 y1, .string y2] = ncs (ns ++ [(o1, m1, y0, y1, y2)])) := hid (by rw [ncs_append]; rfl)
            have HNEW : Hid (J (k + 1) (ns ++ [(o1, m1, y0, y1, y2)]) a3 e3) := Lib.hid (by
              rw [HJ.out]
              by_cases hz : e3 = 0
              · exact .inl ⟨hz, by rw [HSTEP.out, hz], HE00.out⟩
              · exact .inr ⟨hz, HSTOP.out hz⟩)
            have HRW := hid hrow
            have HGR := hid hgr
            clear hq3 hrow hr hgr
            go_wp2_with fail
            refine HN1.out.mono ?_
            rintro e w3 ⟨rfl, hr3, hg3⟩
            have HR3 := hid hr3
            have HG3 := hid (HGR.out.trans hg3)
            have HW3 := hid (row_other HRW.out hg3 HGLT.out)
            have HR1 := hid (World.ownsRow.alloc HW3.out (.cells #[.int .i64 o1, .int .i64 m1, .int .i64 y0, .int .i64 y1, .string y2] 73))
            have hw3 := HG3.out.size
            clear hr3 hg3 x1
            go_wp2_with (first
              | (at_builtin
                 refine wpList_appk _ rfl (.tmp 33) (.tmp 36) 39 rfl w.heap.size 73 i1 _ 5 48 Tryz.underlying39 ji jz0 jz1 jz2 rfl (by decide) (.slice AO k cO) k (ncs ns) rfl HR1.out (w3.heap.size + 1) (some ⟨w3.heap.size, 0, none⟩) 1 [.int .i64 o1, .int .i64 m1, .int .i64 y0, .int .i64 y1, .string y2] 1 rfl rfl (sees_lit w3 #[.int .i64 o1, .int .i64 m1, .int .i64 y0, .int .i64 y1, .string y2] 73 (0, 0) [.int .i64 o1, .int .i64 m1, .int .i64 y0, .int .i64 y1, .string y2] rfl) (by simp [Value.oneCell']) (by unfold maxLen; omega) (by omega) (by simp; omega) ?_
                 intro A5 c5 w5 hr5 hb5 hg5 hat5)
              | fail)
            rw [HNC.out] at hr5
            have hbz3 := (Below.refl w3.heap.size w3).alloc (Nat.le_refl _) (.cells #[.int .i64 o1, .int .i64 m1, .int .i64 y0, .int .i64 y1, .string y2] 73)
            have hR5 := (HR3.out.later hbz3).row hg5 (fun q hq => by have := (HR1.out.lt q hq).1; have := HGLT.out; omega)
            have hG5 := grown_row (grown_onto HG3.out hbz3) hg5 (fun q hq => (HR1.out.lt q hq).1)
            have hl5 : (ns ++ [(o1, m1, y0, y1, y2)]).length = k + 1 := by rw [List.length_append, HNS.out]; rfl
            clear hbz3
            go_roundw
            case rel => exact ⟨k + 1, a3, ns ++ [(o1, m1, y0, y1, y2)], e3, A5, c5, by omega, by go_num, rfl, HNEW, hl5, hqa, hr5, hR5, hG5⟩
            case measure => simp [intOf]; omega
          · obtain rfl : k = n := by omega
            have HLC := lchk_few (l := ns) (by rw [HNS.out]; omega)
            have C0 := hid (rlcheck_any AO k cO ns wr HNS.out (row_sees hrow) (row_cap hrow))
            have HQA : Hid (lchk ns = 0 → Q = (ns, a', 0)) := hid (fun hz => by rw [HQ2.out HE00.out (by rw [HS2.out]) (by rw [HS2.out]; exact hz), HS2.out])
            have HQB : Hid (lchk ns ≠ 0 → Q = ([], a', if lchk ns = 1 then 3 else lchk ns)) := hid (fun hz => by rw [HQ3.out HE00.out (by rw [HS2.out]) (by rw [HS2.out]; exact hz), HS2.out])
            obtain ⟨cc, hcc⟩ : ∃ cc, cc = lchk ns := ⟨_, rfl⟩
            rw [← hcc] at C0 HLC HQA HQB
            have HROW := hid hrow
            have HRD := hid hr
            have HGR := hid hgr
            clear hcc hrow hr hgr
            rcases HLC with rfl | rfl | rfl
            · have HQQ := hid (HQA.out rfl)
              go_wp2_with fail
              refine C0.out.mono ?_
              rintro e w5 ⟨rfl, hb5⟩
              have HR5 := hid (HRD.out.later hb5)
              have HG5 := hid (grown_onto HGR.out hb5)
              have HW5 := hid (row_later HROW.out hb5)
              clear hb5
              go_wp2_with fail
              go_ret
              rw [HQQ.out]
              refine ⟨⟨AO, cO, ?_, ?_⟩, HR5.out, HG5.out⟩
              · rw [HNS.out]; rfl
              · rw [HNS.out]; exact HW5.out
            · have HQQ : Hid (Q = ([], a', 3)) := hid (HQB.out (by decide))
              go_wp2_with fail
              refine C0.out.mono ?_
              rintro e w5 ⟨rfl, hb5⟩
              have HR5 := hid (HRD.out.later hb5)
              have HG5 := hid (grown_onto HGR.out hb5)
              clear hb5
              go_wp2_with fail
              refine (rr_fail base g (l.drop a') 0 3 _ HR5.out).mono ?_
              rintro e w6 ⟨rfl, hr6, hg6⟩
              rw [failOut_zero] at hr6
              have HR6 := hid hr6
              have HG6 := hid (HG5.out.trans hg6)
              clear hr6 hg6 HR5 HG5
              go_wp2_with fail
              go_ret
              rw [HQQ.out]
              exact ⟨⟨none, 0, rfl, World.ownsRow_nil _ _ _ _⟩, HR6.out, HG6.out⟩
            · have HQQ : Hid (Q = ([], a', 5)) := hid (HQB.out (by decide))
              go_wp2_with fail
              refine C0.out.mono ?_
              rintro e w5 ⟨rfl, hb5⟩
              have HR5 := hid (HRD.out.later hb5)
              have HG5 := hid (grown_onto HGR.out hb5)
              clear hb5
              go_wp2_with fail
              refine (rr_fail base g (l.drop a') 0 5 _ HR5.out).mono ?_
              rintro e w6 ⟨rfl, hr6, hg6⟩
              rw [failOut_zero] at hr6
              have HR6 := hid hr6
              have HG6 := hid (HG5.out.trans hg6)
              clear hr6 hg6 HR5 HG5
              go_wp2_with fail
              go_ret
              rw [HQQ.out]
              exact ⟨⟨none, 0, rfl, World.ownsRow_nil _ _ _ _⟩, HR6.out, HG6.out⟩
        · have HQQ := hid hQQ
          have bz : (E == 0) = false := by simp [hE]
          have bz2 : (E != 0) = true := by simp [hE]
          have HRD := hid hr
          have HGR := hid hgr
          clear hE hQQ hr hgr hrow
          by_cases hlt : k < n
          · have d1 : decide ((k : Int) < (n : Int)) = true := by simp; omega
            go_wp2_with fail
            go_ret
            rw [HQQ.out]
            exact ⟨⟨none, 0, rfl, World.ownsRow_nil _ _ _ _⟩, HRD.out, HGR.out⟩
          · have d1 : decide ((k : Int) < (n : Int)) = false := by simp; omega
            go_wp2_with fail
            go_ret
            rw [HQQ.out]
            exact ⟨⟨none, 0, rfl, World.ownsRow_nil _ _ _ _⟩, HRD.out, HGR.out⟩
    · have bez : (ez == 0) = false := by simp [hz]
      have HR1' : Hid (Rr w1 base g (l.drop a0) e0) := hid (by rw [HE.out, failOut_not _ _ hz]; exact hr1)
      have HG1 := hid hg1
      clear h0 hz hr1 hg1
      go_wp2_with fail
      go_loopw [5, 4] (fun i v wr => ∃ (k a' : Nat) (ns : List Nd) (E : Int) (AO : Option Addr) (cO : Nat), k ≤ n ∧ i = .int .i64 k ∧ v = .slice AO k cO ∧ Hid (J k ns a' E) ∧ ns.length = k ∧ a' ≤ l.length ∧ wr.ownsRow w.heap.size 73 5 (.slice AO k cO) k (ncs ns) ∧ Rr wr base g (l.drop a') E ∧ w.grownBy wr (some g)) (fun i _ _ => n - (intOf i).toNat)
      case atStart => exact HSTART.out _ HR1'.out HG1.out
      case round =>
        obtain ⟨k, a', ns, E, AO, cO, hk, rfl, rfl, HS, hnsl, ha', hrow, hr, hgr⟩ := hrel
        have HNS : Hid (ns.length = k) := hid hnsl
        have hwz := hgr.size
        have x1 := hr.facts.2.1
        have hJ := HS.out
        rw [HJ.out] at hJ
        clear hnsl
        rcases hJ with ⟨rfl, hS, hE00⟩ | ⟨hE, hQQ⟩
        · have HS2 := hid hS
          have HE00 := hid hE00
          clear hS hE00 HS
          by_cases hlt : k < n
          · have d1 : decide ((k : Int) < (n : Int)) = true := by simp; omega
            have HN := hid (rr_node base g l a' wr hr ha' hm)
            have hqa : (nodeOut l a').2.1 ≤ l.length := nodeOut_at ha'
            have HSTEP : Hid (nodesOut l (k + 1) a0 = (ns ++ [(nodeOut l a').1], (nodeOut l a').2)) := hid (by have := nodes_step (l := l) (a := a0) (k := k) (by rw [HS2.out]); rw [HS2.out] at this; exact this)
            have HSTOP : Hid ((nodeOut l a').2.2 ≠ 0 → Q = ([], (nodeOut l a').2)) := Lib.hid (fun hz => by
              have h1 := nodes_stuck (l := l) (a := a0) (k := k + 1) (by rw [HSTEP.out]; exact hz) n (by omega)
              rw [HSTEP.out] at h1
              have h2 := HQ1.out HE00.out (by rw [h1]; exact hz)
              rw [h2, h1])
            obtain ⟨⟨⟨o1, m1, y0, y1, y2⟩, a3, e3⟩, hq3⟩ : ∃ q, q = nodeOut l a' := ⟨_, rfl⟩
            rw [← hq3] at HN HSTEP HSTOP hqa
            simp only at HN HSTEP HSTOP hqa
            have HN1 : Hid (Calls Tryz.prog 56 #[.pointer (some ⟨g, 0, none⟩)] wr fun x w' => x = .returned (.agg #[.int .i64 o1, .int .i64 m1, .int .i64 y0, .int .i64 y1, .string y2]) ∧ Rr w' base g (l.drop a3) e3 ∧ wr.grownBy w' (some g)) := hid HN.out
            have HNC : Hid (ncs ns ++ [.int .i64 o1, .int .i64 m1, .int .i64 y0, .int .i64 y1, .string y2] = ncs (ns ++ [(o1, m1, y0, y1, y2)])) := hid (by rw [ncs_append]; rfl)
            have HNEW : Hid (J (k + 1) (ns ++ [(o1, m1, y0, y1, y2)]) a3 e3) := Lib.hid (by
              rw [HJ.out]
              by_cases hz : e3 = 0
              · exact .inl ⟨hz, by rw [HSTEP.out, hz], HE00.out⟩
              · exact .inr ⟨hz, HSTOP.out hz⟩)
            have HRW := hid hrow
            have HGR := hid hgr
            clear hq3 hrow hr hgr
            go_wp2_with fail
            refine HN1.out.mono ?_
            rintro e w3 ⟨rfl, hr3, hg3⟩
            have HR3 := hid hr3
            have HG3 := hid (HGR.out.trans hg3)
            have HW3 := hid (row_other HRW.out hg3 HGLT.out)
            have HR1 := hid (World.ownsRow.alloc HW3.out (.cells #[.int .i64 o1, .int .i64 m1, .int .i64 y0, .int .i64 y1, .string y2] 73))
            have hw3 := HG3.out.size
            clear hr3 hg3 x1
            go_wp2_with (first
              | (at_builtin
                 refine wpList_appk _ rfl (.tmp 33) (.tmp 36) 39 rfl w.heap.size 73 i1 _ 5 48 Tryz.underlying39 ji jz0 jz1 jz2 rfl (by decide) (.slice AO k cO) k (ncs ns) rfl HR1.out (w3.heap.size + 1) (some ⟨w3.heap.size, 0, none⟩) 1 [.int .i64 o1, .int .i64 m1, .int .i64 y0, .int .i64 y1, .string y2] 1 rfl rfl (sees_lit w3 #[.int .i64 o1, .int .i64 m1, .int .i64 y0, .int .i64 y1, .string y2] 73 (0, 0) [.int .i64 o1, .int .i64 m1, .int .i64 y0, .int .i64 y1, .string y2] rfl) (by simp [Value.oneCell']) (by unfold maxLen; omega) (by omega) (by simp; omega) ?_
                 intro A5 c5 w5 hr5 hb5 hg5 hat5)
              | fail)
            rw [HNC.out] at hr5
            have hbz3 := (Below.refl w3.heap.size w3).alloc (Nat.le_refl _) (.cells #[.int .i64 o1, .int .i64 m1, .int .i64 y0, .int .i64 y1, .string y2] 73)
            have hR5 := (HR3.out.later hbz3).row hg5 (fun q hq => by have := (HR1.out.lt q hq).1; have := HGLT.out; omega)
            have hG5 := grown_row (grown_onto HG3.out hbz3) hg5 (fun q hq => (HR1.out.lt q hq).1)
            have hl5 : (ns ++ [(o1, m1, y0, y1, y2)]).length = k + 1 := by rw [List.length_append, HNS.out]; rfl
            clear hbz3
            go_roundw
            case rel => exact ⟨k + 1, a3, ns ++ [(o1, m1, y0, y1, y2)], e3, A5, c5, by omega, by go_num, rfl, HNEW, hl5, hqa, hr5, hR5, hG5⟩
            case measure => simp [intOf]; omega
          · obtain rfl : k = n := by omega
            have HLC := lchk_few (l := ns) (by rw [HNS.out]; omega)
            have C0 := hid (rlcheck_any AO k cO ns wr HNS.out (row_sees hrow) (row_cap hrow))
            have HQA : Hid (lchk ns = 0 → Q = (ns, a', 0)) := hid (fun hz => by rw [HQ2.out HE00.out (by rw [HS2.out]) (by rw [HS2.out]; exact hz), HS2.out])
            have HQB : Hid (lchk ns ≠ 0 → Q = ([], a', if lchk ns = 1 then 3 else lchk ns)) := hid (fun hz => by rw [HQ3.out HE00.out (by rw [HS2.out]) (by rw [HS2.out]; exact hz), HS2.out])
            obtain ⟨cc, hcc⟩ : ∃ cc, cc = lchk ns := ⟨_, rfl⟩
            rw [← hcc] at C0 HLC HQA HQB
            have HROW := hid hrow
            have HRD := hid hr
            have HGR := hid hgr
            clear hcc hrow hr hgr
            rcases HLC with rfl | rfl | rfl
            · have HQQ := hid (HQA.out rfl)
              go_wp2_with fail
              refine C0.out.mono ?_
              rintro e w5 ⟨rfl, hb5⟩
              have HR5 := hid (HRD.out.later hb5)
              have HG5 := hid (grown_onto HGR.out hb5)
              have HW5 := hid (row_later HROW.out hb5)
              clear hb5
              go_wp2_with fail
              go_ret
              rw [HQQ.out]
              refine ⟨⟨AO, cO, ?_, ?_⟩, HR5.out, HG5.out⟩
              · rw [HNS.out]; rfl
              · rw [HNS.out]; exact HW5.out
            · have HQQ : Hid (Q = ([], a', 3)) := hid (HQB.out (by decide))
              go_wp2_with fail
              refine C0.out.mono ?_
              rintro e w5 ⟨rfl, hb5⟩
              have HR5 := hid (HRD.out.later hb5)
              have HG5 := hid (grown_onto HGR.out hb5)
              clear hb5
              go_wp2_with fail
              refine (rr_fail base g (l.drop a') 0 3 _ HR5.out).mono ?_
              rintro e w6 ⟨rfl, hr6, hg6⟩
              rw [failOut_zero] at hr6
              have HR6 := hid hr6
              have HG6 := hid (HG5.out.trans hg6)
              clear hr6 hg6 HR5 HG5
              go_wp2_with fail
              go_ret
              rw [HQQ.out]
              exact ⟨⟨none, 0, rfl, World.ownsRow_nil _ _ _ _⟩, HR6.out, HG6.out⟩
            · have HQQ : Hid (Q = ([], a', 5)) := hid (HQB.out (by decide))
              go_wp2_with fail
              refine C0.out.mono ?_
              rintro e w5 ⟨rfl, hb5⟩
              have HR5 := hid (HRD.out.later hb5)
              have HG5 := hid (grown_onto HGR.out hb5)
              clear hb5
              go_wp2_with fail
              refine (rr_fail base g (l.drop a') 0 5 _ HR5.out).mono ?_
              rintro e w6 ⟨rfl, hr6, hg6⟩
              rw [failOut_zero] at hr6
              have HR6 := hid hr6
              have HG6 := hid (HG5.out.trans hg6)
              clear hr6 hg6 HR5 HG5
              go_wp2_with fail
              go_ret
              rw [HQQ.out]
              exact ⟨⟨none, 0, rfl, World.ownsRow_nil _ _ _ _⟩, HR6.out, HG6.out⟩
        · have HQQ := hid hQQ
          have bz : (E == 0) = false := by simp [hE]
          have bz2 : (E != 0) = true := by simp [hE]
          have HRD := hid hr
          have HGR := hid hgr
          clear hE hQQ hr hgr hrow
          by_cases hlt : k < n
          · have d1 : decide ((k : Int) < (n : Int)) = true := by simp; omega
            go_wp2_with fail
            go_ret
            rw [HQQ.out]
            exact ⟨⟨none, 0, rfl, World.ownsRow_nil _ _ _ _⟩, HRD.out, HGR.out⟩
          · have d1 : decide ((k : Int) < (n : Int)) = false := by simp; omega
            go_wp2_with fail
            go_ret
            rw [HQQ.out]
            exact ⟨⟨none, 0, rfl, World.ownsRow_nil _ _ _ _⟩, HRD.out, HGR.out⟩
  · have HE : Hid (e0 = ez) := hid (by rw [HE0.out, if_neg h0])
    have hez0 : ez = 0 := by
      by_cases hz : ez = 0
      · exact hz
      · exact absurd (HZ'.out (by rw [HE.out]; exact hz)) h0
    subst hez0
    have bn : ((n : Int) == 0) = false := by simp [h0]
    have bnn : (n == 0) = false := by simp [h0]
    have HR1' : Hid (Rr w1 base g (l.drop a0) e0) := hid (by rw [HE.out]; exact hr1)
    have HG1 := hid hg1
    clear h0 hr1 hg1
    go_wp2_with fail
    go_loopw [5, 4] (fun i v wr => ∃ (k a' : Nat) (ns : List Nd) (E : Int) (AO : Option Addr) (cO : Nat), k ≤ n ∧ i = .int .i64 k ∧ v = .slice AO k cO ∧ Hid (J k ns a' E) ∧ ns.length = k ∧ a' ≤ l.length ∧ wr.ownsRow w.heap.size 73 5 (.slice AO k cO) k (ncs ns) ∧ Rr wr base g (l.drop a') E ∧ w.grownBy wr (some g)) (fun i _ _ => n - (intOf i).toNat)
    case atStart => exact HSTART.out _ HR1'.out HG1.out
    case round =>
      obtain ⟨k, a', ns, E, AO, cO, hk, rfl, rfl, HS, hnsl, ha', hrow, hr, hgr⟩ := hrel
      have HNS : Hid (ns.length = k) := hid hnsl
      have hwz := hgr.size
      have x1 := hr.facts.2.1
      have hJ := HS.out
      rw [HJ.out] at hJ
      clear hnsl
      rcases hJ with ⟨rfl, hS, hE00⟩ | ⟨hE, hQQ⟩
      · have HS2 := hid hS
        have HE00 := hid hE00
        clear hS hE00 HS
        by_cases hlt : k < n
        · have d1 : decide ((k : Int) < (n : Int)) = true := by simp; omega
          have HN := hid (rr_node base g l a' wr hr ha' hm)
          have hqa : (nodeOut l a').2.1 ≤ l.length := nodeOut_at ha'
          have HSTEP : Hid (nodesOut l (k + 1) a0 = (ns ++ [(nodeOut l a').1], (nodeOut l a').2)) := hid (by have := nodes_step (l := l) (a := a0) (k := k) (by rw [HS2.out]); rw [HS2.out] at this; exact this)
          have HSTOP : Hid ((nodeOut l a').2.2 ≠ 0 → Q = ([], (nodeOut l a').2)) := Lib.hid (fun hz => by
            have h1 := nodes_stuck (l := l) (a := a0) (k := k + 1) (by rw [HSTEP.out]; exact hz) n (by omega)
            rw [HSTEP.out] at h1
            have h2 := HQ1.out HE00.out (by rw [h1]; exact hz)
            rw [h2, h1])
          obtain ⟨⟨⟨o1, m1, y0, y1, y2⟩, a3, e3⟩, hq3⟩ : ∃ q, q = nodeOut l a' := ⟨_, rfl⟩
          rw [← hq3] at HN HSTEP HSTOP hqa
          simp only at HN HSTEP HSTOP hqa
          have HN1 : Hid (Calls Tryz.prog 56 #[.pointer (some ⟨g, 0, none⟩)] wr fun x w' => x = .returned (.agg #[.int .i64 o1, .int .i64 m1, .int .i64 y0, .int .i64 y1, .string y2]) ∧ Rr w' base g (l.drop a3) e3 ∧ wr.grownBy w' (some g)) := hid HN.out
          have HNC : Hid (ncs ns ++ [.int .i64 o1, .int .i64 m1, .int .i64 y0, .int .i64 y1, .string y2] = ncs (ns ++ [(o1, m1, y0, y1, y2)])) := hid (by rw [ncs_append]; rfl)
          have HNEW : Hid (J (k + 1) (ns ++ [(o1, m1, y0, y1, y2)]) a3 e3) := Lib.hid (by
            rw [HJ.out]
            by_cases hz : e3 = 0
            · exact .inl ⟨hz, by rw [HSTEP.out, hz], HE00.out⟩
            · exact .inr ⟨hz, HSTOP.out hz⟩)
          have HRW := hid hrow
          have HGR := hid hgr
          clear hq3 hrow hr hgr
          go_wp2_with fail
          refine HN1.out.mono ?_
          rintro e w3 ⟨rfl, hr3, hg3⟩
          have HR3 := hid hr3
          have HG3 := hid (HGR.out.trans hg3)
          have HW3 := hid (row_other HRW.out hg3 HGLT.out)
          have HR1 := hid (World.ownsRow.alloc HW3.out (.cells #[.int .i64 o1, .int .i64 m1, .int .i64 y0, .int .i64 y1, .string y2] 73))
          have hw3 := HG3.out.size
          clear hr3 hg3 x1
          go_wp2_with (first
            | (at_builtin
               refine wpList_appk _ rfl (.tmp 33) (.tmp 36) 39 rfl w.heap.size 73 i1 _ 5 48 Tryz.underlying39 ji jz0 jz1 jz2 rfl (by decide) (.slice AO k cO) k (ncs ns) rfl HR1.out (w3.heap.size + 1) (some ⟨w3.heap.size, 0, none⟩) 1 [.int .i64 o1, .int .i64 m1, .int .i64 y0, .int .i64 y1, .string y2] 1 rfl rfl (sees_lit w3 #[.int .i64 o1, .int .i64 m1, .int .i64 y0, .int .i64 y1, .string y2] 73 (0, 0) [.int .i64 o1, .int .i64 m1, .int .i64 y0, .int .i64 y1, .string y2] rfl) (by simp [Value.oneCell']) (by unfold maxLen; omega) (by omega) (by simp; omega) ?_
               intro A5 c5 w5 hr5 hb5 hg5 hat5)
            | fail)
          rw [HNC.out] at hr5
          have hbz3 := (Below.refl w3.heap.size w3).alloc (Nat.le_refl _) (.cells #[.int .i64 o1, .int .i64 m1, .int .i64 y0, .int .i64 y1, .string y2] 73)
          have hR5 := (HR3.out.later hbz3).row hg5 (fun q hq => by have := (HR1.out.lt q hq).1; have := HGLT.out; omega)
          have hG5 := grown_row (grown_onto HG3.out hbz3) hg5 (fun q hq => (HR1.out.lt q hq).1)
          have hl5 : (ns ++ [(o1, m1, y0, y1, y2)]).length = k + 1 := by rw [List.length_append, HNS.out]; rfl
          clear hbz3
          go_roundw
          case rel => exact ⟨k + 1, a3, ns ++ [(o1, m1, y0, y1, y2)], e3, A5, c5, by omega, by go_num, rfl, HNEW, hl5, hqa, hr5, hR5, hG5⟩
          case measure => simp [intOf]; omega
        · obtain rfl : k = n := by omega
          have HLC := lchk_few (l := ns) (by rw [HNS.out]; omega)
          have C0 := hid (rlcheck_any AO k cO ns wr HNS.out (row_sees hrow) (row_cap hrow))
          have HQA : Hid (lchk ns = 0 → Q = (ns, a', 0)) := hid (fun hz => by rw [HQ2.out HE00.out (by rw [HS2.out]) (by rw [HS2.out]; exact hz), HS2.out])
          have HQB : Hid (lchk ns ≠ 0 → Q = ([], a', if lchk ns = 1 then 3 else lchk ns)) := hid (fun hz => by rw [HQ3.out HE00.out (by rw [HS2.out]) (by rw [HS2.out]; exact hz), HS2.out])
          obtain ⟨cc, hcc⟩ : ∃ cc, cc = lchk ns := ⟨_, rfl⟩
          rw [← hcc] at C0 HLC HQA HQB
          have HROW := hid hrow
          have HRD := hid hr
          have HGR := hid hgr
          clear hcc hrow hr hgr
          rcases HLC with rfl | rfl | rfl
          · have HQQ := hid (HQA.out rfl)
            go_wp2_with fail
            refine C0.out.mono ?_
            rintro e w5 ⟨rfl, hb5⟩
            have HR5 := hid (HRD.out.later hb5)
            have HG5 := hid (grown_onto HGR.out hb5)
            have HW5 := hid (row_later HROW.out hb5)
            clear hb5
            go_wp2_with fail
            go_ret
            rw [HQQ.out]
            refine ⟨⟨AO, cO, ?_, ?_⟩, HR5.out, HG5.out⟩
            · rw [HNS.out]; rfl
            · rw [HNS.out]; exact HW5.out
          · have HQQ : Hid (Q = ([], a', 3)) := hid (HQB.out (by decide))
            go_wp2_with fail
            refine C0.out.mono ?_
            rintro e w5 ⟨rfl, hb5⟩
            have HR5 := hid (HRD.out.later hb5)
            have HG5 := hid (grown_onto HGR.out hb5)
            clear hb5
            go_wp2_with fail
            refine (rr_fail base g (l.drop a') 0 3 _ HR5.out).mono ?_
            rintro e w6 ⟨rfl, hr6, hg6⟩
            rw [failOut_zero] at hr6
            have HR6 := hid hr6
            have HG6 := hid (HG5.out.trans hg6)
            clear hr6 hg6 HR5 HG5
            go_wp2_with fail
            go_ret
            rw [HQQ.out]
            exact ⟨⟨none, 0, rfl, World.ownsRow_nil _ _ _ _⟩, HR6.out, HG6.out⟩
          · have HQQ : Hid (Q = ([], a', 5)) := hid (HQB.out (by decide))
            go_wp2_with fail
            refine C0.out.mono ?_
            rintro e w5 ⟨rfl, hb5⟩
            have HR5 := hid (HRD.out.later hb5)
            have HG5 := hid (grown_onto HGR.out hb5)
            clear hb5
            go_wp2_with fail
            refine (rr_fail base g (l.drop a') 0 5 _ HR5.out).mono ?_
            rintro e w6 ⟨rfl, hr6, hg6⟩
            rw [failOut_zero] at hr6
            have HR6 := hid hr6
            have HG6 := hid (HG5.out.trans hg6)
            clear hr6 hg6 HR5 HG5
            go_wp2_with fail
            go_ret
            rw [HQQ.out]
            exact ⟨⟨none, 0, rfl, World.ownsRow_nil _ _ _ _⟩, HR6.out, HG6.out⟩
      · have HQQ := hid hQQ
        have bz : (E == 0) = false := by simp [hE]
        have bz2 : (E != 0) = true := by simp [hE]
        have HRD := hid hr
        have HGR := hid hgr
        clear hE hQQ hr hgr hrow
        by_cases hlt : k < n
        · have d1 : decide ((k : Int) < (n : Int)) = true := by simp; omega
          go_wp2_with fail
          go_ret
          rw [HQQ.out]
          exact ⟨⟨none, 0, rfl, World.ownsRow_nil _ _ _ _⟩, HRD.out, HGR.out⟩
        · have d1 : decide ((k : Int) < (n : Int)) = false := by simp; omega
          go_wp2_with fail
          go_ret
          rw [HQQ.out]
          exact ⟨⟨none, 0, rfl, World.ownsRow_nil _ _ _ _⟩, HRD.out, HGR.out⟩
end Go.Proofs.YtnhcjadkbogioaaGreat
namespace Go.Proofs.YtnhcjadkbogioaaGreat
open Go Go.RowKit
end Go.Proofs.YtnhcjadkbogioaaGreat
namespace Go.Proofs.YtnhcjadkbogioaaGreat
open Go Go.RowKit OctM
theorem wp_region_headx {T : Type} {P : Program} {id : Nat} {Q : Exit → Act → World → Prop} {a : Act} {w : World} {l : List Oper} (k n : Nat) (listed : Array Bool) (vs : T → List Value) (S : T → World → Prop) (hm : P.follows .mixedOrders = true)
    (hs : Region.noSelect l.toArray = true) (hf : fedB l [] n = true) (hB : Region.lexFrom .any l.toArray (l.drop k).length k listed = true) (hn : ∀ t, (putsAll l (vs t) a).tmps.size = n)
    (head : (∀ t w', S t w' → wpAny P .any l.toArray Q (l.drop k).length listed (putsAll l (vs t) a) w') → wpAny P .any l.toArray Q l.length (Array.replicate l.length false) a { w with drawn := w.drawn + 1 })
    (tail : ∀ t w', S t w' → wpG P l.toArray (openOf []) w' (fun a' w' => Q .normal a' w') (l.drop k) (putsAll l (vs t) a) (fun _ => True)) : (Code.region id l.toArray true).wp P Q a w := by
  refine wp_region_any hm ?_
  simpa using head fun t w' hS => wpAny_rest k n listed hs hf hB (hn t) (tail t w' hS)
end Go.Proofs.YtnhcjadkbogioaaGreat
