/- Filters as they are read of bytes: what the document's Read returns. -/
import Derived.Test.YtadmaalhhigbeaaW23
import Derived.Test.YtadmaalhhigbeaaW19
namespace Go.Proofs.Ytadmaalhhigbeaa
set_option linter.unusedVariables false
set_option linter.unusedSimpArgs false
open Go Go.RowKit OctM

def NodesReadR (w : World) (base g : Nat) (l : List UInt8) (q : List Nd × Nat × Int) : Ending → World → Prop := fun x w' => (∃ A c, x = .returned (.slice A q.1.length c) ∧ w'.ownsRow w.heap.size 71 5 (.slice A q.1.length c) q.1.length (ncs q.1)) ∧ Rr w' base g (l.drop q.2.1) q.2.2 ∧ w.grownBy w' (some g)

set_option maxRecDepth 100000 in
set_option maxHeartbeats 12800000 in
theorem rr_filter (base g : Nat) (l : List UInt8) (a : Nat) (e : Int) (w : World) (h : Rr w base g (l.drop a) e) (ha : a ≤ l.length) (hm : l.length ≤ 4000) :
    Calls Try.prog 56 #[.pointer (some ⟨g, 0, none⟩)] w (NodesReadR w base g l (filtOut l a e)) := by
  obtain ⟨i1, ji, jz0, jz1, jz2⟩ := info_parts info_noded
  have hu := Try.underlying71
  have hgl := h.block.2
  have HNUM := Lib.hid (rr_numd base g l a e 31 w h hm)
  have hny := mny_le l a e
  have hna := mny_at (e := e) ha
  obtain ⟨n, hn0⟩ : ∃ n, n = (mny l a e).1 := ⟨_, rfl⟩
  obtain ⟨a0, ha0⟩ : ∃ x, x = (mny l a e).2.1 := ⟨_, rfl⟩
  obtain ⟨e0, he0⟩ : ∃ x, x = (mny l a e).2.2 := ⟨_, rfl⟩
  obtain ⟨ez, hez⟩ : ∃ ez, ez = (numOut l a e 31).2.2 := ⟨_, rfl⟩
  have e1 : (numOut l a e 31).1 = n := by rw [hn0]; rfl
  have e2 : (numOut l a e 31).2.1 = a0 := by rw [ha0]; rfl
  have HE0 : Hid (e0 = if n = 0 then failOut ez 3 else ez) := Lib.hid (by rw [he0, hez, ← e1]; rfl)
  have HZ : Hid (n = 0 → e0 ≠ 0) := Lib.hid (fun hz => by rw [he0]; exact mny_none (by rw [← hn0]; exact hz))
  have HZ' : Hid (e0 ≠ 0 → n = 0) := Lib.hid (fun hz => by rw [hn0]; exact mny_err (by rw [← he0]; exact hz))
  obtain ⟨Q, hQ⟩ : ∃ Q, Q = filtOut l a e := ⟨_, rfl⟩
  have HQ0 : Hid (e0 ≠ 0 → Q = ([], a0, e0)) := Lib.hid (fun hz => by rw [hQ]; unfold filtOut; rw [if_pos (by rw [← he0]; exact hz), ha0, he0])
  have HQ1 : Hid (e0 = 0 → (nodesOut l n a0).2.2 ≠ 0 → Q = ([], (nodesOut l n a0).2)) := Lib.hid (fun hz h2 => by rw [hQ]; unfold filtOut; rw [if_neg (by rw [← he0]; simpa using hz), ← hn0, ← ha0, if_pos h2])
  have HQ2 : Hid (e0 = 0 → (nodesOut l n a0).2.2 = 0 → lchk (nodesOut l n a0).1 = 0 → Q = nodesOut l n a0) := Lib.hid (fun hz h2 h3 => by rw [hQ]; unfold filtOut; rw [if_neg (by rw [← he0]; simpa using hz), ← hn0, ← ha0, if_neg (by simpa using h2), if_pos h3])
  have HQ3 : Hid (e0 = 0 → (nodesOut l n a0).2.2 = 0 → lchk (nodesOut l n a0).1 ≠ 0 → Q = ([], (nodesOut l n a0).2.1, if lchk (nodesOut l n a0).1 = 1 then 3 else lchk (nodesOut l n a0).1)) := Lib.hid (fun hz h2 h3 => by rw [hQ]; unfold filtOut; rw [if_neg (by rw [← he0]; simpa using hz), ← hn0, ← ha0, if_neg (by simpa using h2), if_neg h3])
  rw [← hQ]
  rw [← hn0] at hny
  rw [← ha0] at hna
  rw [e1, e2, ← hez] at HNUM
  have HF := Lib.hid (fun (wx : World) (hr : Rr wx base g (l.drop a0) ez) => rr_fail base g (l.drop a0) ez 3 wx hr)
  -- what the loop keeps
  obtain ⟨J, hJ⟩ : ∃ J : Nat → List Nd → Nat → Int → Prop, J = fun k ns a' E => (E = 0 ∧ nodesOut l k a0 = (ns, a', 0) ∧ e0 = 0) ∨ (E ≠ 0 ∧ Q = ([], a', E)) := ⟨_, rfl⟩
  have HJ := Lib.hid hJ
  have HGLT := Lib.hid hgl
  clear hQ hn0 ha0 he0 hez e1 e2 h hJ
  unfold NodesReadR
  go_enter Try.func56, Try.ntmps56
  go_wp2_with fail
  refine HNUM.out.mono ?_
  rintro e w1 ⟨rfl, hr1, hg1⟩
  clear HNUM
  have x1 := hr1.facts.2.1
  have HSTART : Hid (∀ wx : World, Rr wx base g (l.drop a0) e0 → w.grownBy wx (some g) → ∃ (k a' : Nat) (ns : List Nd) (E : Int) (AO : Option Addr) (cO : Nat), k ≤ n ∧ (Value.int .i64 0) = .int .i64 k ∧ (Value.slice (some ⟨wx.heap.size, 0, none⟩) 0 0) = .slice AO k cO ∧ Hid (J k ns a' E) ∧ ns.length = k ∧ a' ≤ l.length ∧ (wx.alloc (.cells #[] 71)).ownsRow w.heap.size 71 5 (.slice AO k cO) k (ncs ns) ∧ Rr (wx.alloc (.cells #[] 71)) base g (l.drop a') E ∧ w.grownBy (wx.alloc (.cells #[] 71)) (some g)) := Lib.hid (fun wx hr hg => by
    have hb := (Below.refl wx.heap.size wx).alloc (Nat.le_refl _) (.cells #[] 71)
    refine ⟨0, a0, [], e0, _, _, Nat.zero_le _, rfl, rfl, Lib.hid ?_, rfl, hna, row_lit wx w.heap.size 71 5 0 #[] hg.size (by simp [maxLen]) rfl, hr.later hb, grown_onto hg hb⟩
    rw [HJ.out]
    by_cases hz : e0 = 0
    · exact .inl ⟨hz, rfl, hz⟩
    · exact .inr ⟨hz, HQ0.out hz⟩)
  by_cases h0 : n = 0
  · have HE : Hid (e0 = failOut ez 3) := Lib.hid (by rw [HE0.out, if_pos h0])
    have bn : ((n : Int) == 0) = true := by simp [h0]
    have bnn : (n == 0) = true := by simp [h0]
    by_cases hz : ez = 0
    · subst hz
      clear h0
      go_wp2_with fail
      refine (HF.out _ hr1).mono ?_
      rintro e w2 ⟨rfl, hr2, hg2⟩
      rw [← HE.out] at hr2
      have HR2 := Lib.hid hr2
      have HG2 := Lib.hid (hg1.trans hg2)
      clear hr1 hg1 hg2 hr2 x1
      go_wp2_with fail
      go_loopw [5, 4] (fun i v wr => ∃ (k a' : Nat) (ns : List Nd) (E : Int) (AO : Option Addr) (cO : Nat), k ≤ n ∧ i = .int .i64 k ∧ v = .slice AO k cO ∧ Hid (J k ns a' E) ∧ ns.length = k ∧ a' ≤ l.length ∧ wr.ownsRow w.heap.size 71 5 (.slice AO k cO) k (ncs ns) ∧ Rr wr base g (l.drop a') E ∧ w.grownBy wr (some g)) (fun i _ _ => n - (intOf i).toNat)
      case atStart => exact HSTART.out _ HR2.out HG2.out
      case round =>
        obtain ⟨k, a', ns, E, AO, cO, hk, rfl, rfl, HS, hnsl, ha', hrow, hr, hgr⟩ := hrel
        have HNS : Hid (ns.length = k) := Lib.hid hnsl
        have hwz := hgr.size
        have x1 := hr.facts.2.1
        have hJ := HS.out
        rw [HJ.out] at hJ
        clear hnsl
        rcases hJ with ⟨rfl, hS, hE00⟩ | ⟨hE, hQQ⟩
        · have HS2 := Lib.hid hS
          have HE00 := Lib.hid hE00
          clear hS hE00 HS
          by_cases hlt : k < n
          · have d1 : decide ((k : Int) < (n : Int)) = true := by simp; omega
            have HN := Lib.hid (rr_node base g l a' wr hr ha' hm)
            have hqa : (nodeOut l a').2.1 ≤ l.length := nodeOut_at ha'
            have HSTEP : Hid (nodesOut l (k + 1) a0 = (ns ++ [(nodeOut l a').1], (nodeOut l a').2)) := Lib.hid (by have := nodes_step (l := l) (a := a0) (k := k) (by rw [HS2.out]); rw [HS2.out] at this; exact this)
            have HSTOP : Hid ((nodeOut l a').2.2 ≠ 0 → Q = ([], (nodeOut l a').2)) := Lib.hid (fun hz => by
              have h1 := nodes_stuck (l := l) (a := a0) (k := k + 1) (by rw [HSTEP.out]; exact hz) n (by omega)
              rw [HSTEP.out] at h1
              have h2 := HQ1.out HE00.out (by rw [h1]; exact hz)
              rw [h2, h1])
            obtain ⟨⟨⟨o1, m1, y0, y1, y2⟩, a3, e3⟩, hq3⟩ : ∃ q, q = nodeOut l a' := ⟨_, rfl⟩
            rw [← hq3] at HN HSTEP HSTOP hqa
            simp only at HN HSTEP HSTOP hqa
            have HN1 : Hid (Calls Try.prog 84 #[.pointer (some ⟨g, 0, none⟩)] wr fun x w' => x = .returned (.agg #[.int .i64 o1, .int .i64 m1, .int .i64 y0, .int .i64 y1, .string y2]) ∧ Rr w' base g (l.drop a3) e3 ∧ wr.grownBy w' (some g)) := Lib.hid HN.out
            have HNC : Hid (ncs ns ++ [.int .i64 o1, .int .i64 m1, .int .i64 y0, .int .i64 y1, .string y2] = ncs (ns ++ [(o1, m1, y0, y1, y2)])) := Lib.hid (by rw [ncs_append]; rfl)
            have HNEW : Hid (J (k + 1) (ns ++ [(o1, m1, y0, y1, y2)]) a3 e3) := Lib.hid (by
              rw [HJ.out]
              by_cases hz : e3 = 0
              · exact .inl ⟨hz, by rw [HSTEP.out, hz], HE00.out⟩
              · exact .inr ⟨hz, HSTOP.out hz⟩)
            have HRW := Lib.hid hrow
            have HGR := Lib.hid hgr
            clear hq3 hrow hr hgr
            go_wp2_with fail
            refine HN1.out.mono ?_
            rintro e w3 ⟨rfl, hr3, hg3⟩
            have HR3 := Lib.hid hr3
            have HG3 := Lib.hid (HGR.out.trans hg3)
            have HW3 := Lib.hid (row_other HRW.out hg3 HGLT.out)
            have HR1 := Lib.hid (World.ownsRow.alloc HW3.out (.cells #[.int .i64 o1, .int .i64 m1, .int .i64 y0, .int .i64 y1, .string y2] 71))
            have hw3 := HG3.out.size
            clear hr3 hg3 x1
            go_wp2_with (first
              | (at_builtin
                 refine wpList_appk _ rfl (.tmp 33) (.tmp 36) 23 rfl w.heap.size 71 i1 _ 5 48 Try.underlying23 ji jz0 jz1 jz2 rfl (by decide) (.slice AO k cO) k (ncs ns) rfl HR1.out (w3.heap.size + 1) (some ⟨w3.heap.size, 0, none⟩) 1 [.int .i64 o1, .int .i64 m1, .int .i64 y0, .int .i64 y1, .string y2] 1 rfl rfl (sees_lit w3 #[.int .i64 o1, .int .i64 m1, .int .i64 y0, .int .i64 y1, .string y2] 71 (0, 0) [.int .i64 o1, .int .i64 m1, .int .i64 y0, .int .i64 y1, .string y2] rfl) (by simp [Value.oneCell']) (by unfold maxLen; omega) (by omega) (by simp; omega) ?_
                 intro A5 c5 w5 hr5 hb5 hg5 hat5)
              | fail)
            rw [HNC.out] at hr5
            have hbz3 := (Below.refl w3.heap.size w3).alloc (Nat.le_refl _) (.cells #[.int .i64 o1, .int .i64 m1, .int .i64 y0, .int .i64 y1, .string y2] 71)
            have hR5 := (HR3.out.later hbz3).row hg5 (fun q hq => by have := (HR1.out.lt q hq).1; have := HGLT.out; omega)
            have hG5 := grown_row (grown_onto HG3.out hbz3) hg5 (fun q hq => (HR1.out.lt q hq).1)
            have hl5 : (ns ++ [(o1, m1, y0, y1, y2)]).length = k + 1 := by rw [List.length_append, HNS.out]; rfl
            clear hbz3
            go_roundw
            case rel => exact ⟨k + 1, a3, ns ++ [(o1, m1, y0, y1, y2)], e3, A5, c5, by omega, by go_num, rfl, HNEW, hl5, hqa, hr5, hR5, hG5⟩
            case measure => simp [intOf]; omega
          · obtain rfl : k = n := by omega
            have HLC := lchk_few (l := ns) (by rw [HNS.out]; omega)
            have C0 := Lib.hid (rlcheck_any AO k cO ns wr HNS.out (row_sees hrow) (row_cap hrow))
            have HQA : Hid (lchk ns = 0 → Q = (ns, a', 0)) := Lib.hid (fun hz => by rw [HQ2.out HE00.out (by rw [HS2.out]) (by rw [HS2.out]; exact hz), HS2.out])
            have HQB : Hid (lchk ns ≠ 0 → Q = ([], a', if lchk ns = 1 then 3 else lchk ns)) := Lib.hid (fun hz => by rw [HQ3.out HE00.out (by rw [HS2.out]) (by rw [HS2.out]; exact hz), HS2.out])
            obtain ⟨cc, hcc⟩ : ∃ cc, cc = lchk ns := ⟨_, rfl⟩
            rw [← hcc] at C0 HLC HQA HQB
            have HROW := Lib.hid hrow
            have HRD := Lib.hid hr
            have HGR := Lib.hid hgr
            clear hcc hrow hr hgr
            rcases HLC with rfl | rfl | rfl
            · have HQQ := Lib.hid (HQA.out rfl)
              go_wp2_with fail
              refine C0.out.mono ?_
              rintro e w5 ⟨rfl, hb5⟩
              have HR5 := Lib.hid (HRD.out.later hb5)
              have HG5 := Lib.hid (grown_onto HGR.out hb5)
              have HW5 := Lib.hid (row_later HROW.out hb5)
              clear hb5
              go_wp2_with fail
              go_ret
              rw [HQQ.out]
              refine ⟨⟨AO, cO, ?_, ?_⟩, HR5.out, HG5.out⟩
              · rw [HNS.out]; rfl
              · rw [HNS.out]; exact HW5.out
            · have HQQ : Hid (Q = ([], a', 3)) := Lib.hid (HQB.out (by decide))
              go_wp2_with fail
              refine C0.out.mono ?_
              rintro e w5 ⟨rfl, hb5⟩
              have HR5 := Lib.hid (HRD.out.later hb5)
              have HG5 := Lib.hid (grown_onto HGR.out hb5)
              clear hb5
              go_wp2_with fail
              refine (rr_fail base g (l.drop a') 0 3 _ HR5.out).mono ?_
              rintro e w6 ⟨rfl, hr6, hg6⟩
              rw [failOut_zero] at hr6
              have HR6 := Lib.hid hr6
              have HG6 := Lib.hid (HG5.out.trans hg6)
              clear hr6 hg6 HR5 HG5
              go_wp2_with fail
              go_ret
              rw [HQQ.out]
              exact ⟨⟨none, 0, rfl, World.ownsRow_nil _ _ _ _⟩, HR6.out, HG6.out⟩
            · have HQQ : Hid (Q = ([], a', 5)) := Lib.hid (HQB.out (by decide))
              go_wp2_with fail
              refine C0.out.mono ?_
              rintro e w5 ⟨rfl, hb5⟩
              have HR5 := Lib.hid (HRD.out.later hb5)
              have HG5 := Lib.hid (grown_onto HGR.out hb5)
              clear hb5
              go_wp2_with fail
              refine (rr_fail base g (l.drop a') 0 5 _ HR5.out).mono ?_
              rintro e w6 ⟨rfl, hr6, hg6⟩
              rw [failOut_zero] at hr6
              have HR6 := Lib.hid hr6
              have HG6 := Lib.hid (HG5.out.trans hg6)
              clear hr6 hg6 HR5 HG5
              go_wp2_with fail
              go_ret
              rw [HQQ.out]
              exact ⟨⟨none, 0, rfl, World.ownsRow_nil _ _ _ _⟩, HR6.out, HG6.out⟩
        · have HQQ := Lib.hid hQQ
          have bz : (E == 0) = false := by simp [hE]
          have bz2 : (E != 0) = true := by simp [hE]
          have HRD := Lib.hid hr
          have HGR := Lib.hid hgr
          clear hE hQQ hr hgr hrow
          by_cases hlt : k < n
          · have d1 : decide ((k : Int) < (n : Int)) = true := by simp; omega
            go_wp2_with fail
            go_ret
            rw [HQQ.out]
            exact ⟨⟨none, 0, rfl, World.ownsRow_nil _ _ _ _⟩, HRD.out, HGR.out⟩
          · have d1 : decide ((k : Int) < (n : Int)) = false := by simp; omega
            go_wp2_with fail
            go_ret
            rw [HQQ.out]
            exact ⟨⟨none, 0, rfl, World.ownsRow_nil _ _ _ _⟩, HRD.out, HGR.out⟩
    · have bez : (ez == 0) = false := by simp [hz]
      have HR1' : Hid (Rr w1 base g (l.drop a0) e0) := Lib.hid (by rw [HE.out, failOut_not _ _ hz]; exact hr1)
      have HG1 := Lib.hid hg1
      clear h0 hz hr1 hg1
      go_wp2_with fail
      go_loopw [5, 4] (fun i v wr => ∃ (k a' : Nat) (ns : List Nd) (E : Int) (AO : Option Addr) (cO : Nat), k ≤ n ∧ i = .int .i64 k ∧ v = .slice AO k cO ∧ Hid (J k ns a' E) ∧ ns.length = k ∧ a' ≤ l.length ∧ wr.ownsRow w.heap.size 71 5 (.slice AO k cO) k (ncs ns) ∧ Rr wr base g (l.drop a') E ∧ w.grownBy wr (some g)) (fun i _ _ => n - (intOf i).toNat)
      case atStart => exact HSTART.out _ HR1'.out HG1.out
      case round =>
        obtain ⟨k, a', ns, E, AO, cO, hk, rfl, rfl, HS, hnsl, ha', hrow, hr, hgr⟩ := hrel
        have HNS : Hid (ns.length = k) := Lib.hid hnsl
        have hwz := hgr.size
        have x1 := hr.facts.2.1
        have hJ := HS.out
        rw [HJ.out] at hJ
        clear hnsl
        rcases hJ with ⟨rfl, hS, hE00⟩ | ⟨hE, hQQ⟩
        · have HS2 := Lib.hid hS
          have HE00 := Lib.hid hE00
          clear hS hE00 HS
          by_cases hlt : k < n
          · have d1 : decide ((k : Int) < (n : Int)) = true := by simp; omega
            have HN := Lib.hid (rr_node base g l a' wr hr ha' hm)
            have hqa : (nodeOut l a').2.1 ≤ l.length := nodeOut_at ha'
            have HSTEP : Hid (nodesOut l (k + 1) a0 = (ns ++ [(nodeOut l a').1], (nodeOut l a').2)) := Lib.hid (by have := nodes_step (l := l) (a := a0) (k := k) (by rw [HS2.out]); rw [HS2.out] at this; exact this)
            have HSTOP : Hid ((nodeOut l a').2.2 ≠ 0 → Q = ([], (nodeOut l a').2)) := Lib.hid (fun hz => by
              have h1 := nodes_stuck (l := l) (a := a0) (k := k + 1) (by rw [HSTEP.out]; exact hz) n (by omega)
              rw [HSTEP.out] at h1
              have h2 := HQ1.out HE00.out (by rw [h1]; exact hz)
              rw [h2, h1])
            obtain ⟨⟨⟨o1, m1, y0, y1, y2⟩, a3, e3⟩, hq3⟩ : ∃ q, q = nodeOut l a' := ⟨_, rfl⟩
            rw [← hq3] at HN HSTEP HSTOP hqa
            simp only at HN HSTEP HSTOP hqa
            have HN1 : Hid (Calls Try.prog 84 #[.pointer (some ⟨g, 0, none⟩)] wr fun x w' => x = .returned (.agg #[.int .i64 o1, .int .i64 m1, .int .i64 y0, .int .i64 y1, .string y2]) ∧ Rr w' base g (l.drop a3) e3 ∧ wr.grownBy w' (some g)) := Lib.hid HN.out
            have HNC : Hid (ncs ns ++ [.int .i64 o1, .int .i64 m1, .int .i64 y0, .int .i64 y1, .string y2] = ncs (ns ++ [(o1, m1, y0, y1, y2)])) := Lib.hid (by rw [ncs_append]; rfl)
            have HNEW : Hid (J (k + 1) (ns ++ [(o1, m1, y0, y1, y2)]) a3 e3) := Lib.hid (by
              rw [HJ.out]
              by_cases hz : e3 = 0
              · exact .inl ⟨hz, by rw [HSTEP.out, hz], HE00.out⟩
              · exact .inr ⟨hz, HSTOP.out hz⟩)
            have HRW := Lib.hid hrow
            have HGR := Lib.hid hgr
            clear hq3 hrow hr hgr
            go_wp2_with fail
            refine HN1.out.mono ?_
            rintro e w3 ⟨rfl, hr3, hg3⟩
            have HR3 := Lib.hid hr3
            have HG3 := Lib.hid (HGR.out.trans hg3)
            have HW3 := Lib.hid (row_other HRW.out hg3 HGLT.out)
            have HR1 := Lib.hid (World.ownsRow.alloc HW3.out (.cells #[.int .i64 o1, .int .i64 m1, .int .i64 y0, .int .i64 y1, .string y2] 71))
            have hw3 := HG3.out.size
            clear hr3 hg3 x1
            go_wp2_with (first
              | (at_builtin
                 refine wpList_appk _ rfl (.tmp 33) (.tmp 36) 23 rfl w.heap.size 71 i1 _ 5 48 Try.underlying23 ji jz0 jz1 jz2 rfl (by decide) (.slice AO k cO) k (ncs ns) rfl HR1.out (w3.heap.size + 1) (some ⟨w3.heap.size, 0, none⟩) 1 [.int .i64 o1, .int .i64 m1, .int .i64 y0, .int .i64 y1, .string y2] 1 rfl rfl (sees_lit w3 #[.int .i64 o1, .int .i64 m1, .int .i64 y0, .int .i64 y1, .string y2] 71 (0, 0) [.int .i64 o1, .int .i64 m1, .int .i64 y0, .int .i64 y1, .string y2] rfl) (by simp [Value.oneCell']) (by unfold maxLen; omega) (by omega) (by simp; omega) ?_
                 intro A5 c5 w5 hr5 hb5 hg5 hat5)
              | fail)
            rw [HNC.out] at hr5
            have hbz3 := (Below.refl w3.heap.size w3).alloc (Nat.le_refl _) (.cells #[.int .i64 o1, .int .i64 m1, .int .i64 y0, .int .i64 y1, .string y2] 71)
            have hR5 := (HR3.out.later hbz3).row hg5 (fun q hq => by have := (HR1.out.lt q hq).1; have := HGLT.out; omega)
            have hG5 := grown_row (grown_onto HG3.out hbz3) hg5 (fun q hq => (HR1.out.lt q hq).1)
            have hl5 : (ns ++ [(o1, m1, y0, y1, y2)]).length = k + 1 := by rw [List.length_append, HNS.out]; rfl
            clear hbz3
            go_roundw
            case rel => exact ⟨k + 1, a3, ns ++ [(o1, m1, y0, y1, y2)], e3, A5, c5, by omega, by go_num, rfl, HNEW, hl5, hqa, hr5, hR5, hG5⟩
            case measure => simp [intOf]; omega
          · obtain rfl : k = n := by omega
            have HLC := lchk_few (l := ns) (by rw [HNS.out]; omega)
            have C0 := Lib.hid (rlcheck_any AO k cO ns wr HNS.out (row_sees hrow) (row_cap hrow))
            have HQA : Hid (lchk ns = 0 → Q = (ns, a', 0)) := Lib.hid (fun hz => by rw [HQ2.out HE00.out (by rw [HS2.out]) (by rw [HS2.out]; exact hz), HS2.out])
            have HQB : Hid (lchk ns ≠ 0 → Q = ([], a', if lchk ns = 1 then 3 else lchk ns)) := Lib.hid (fun hz => by rw [HQ3.out HE00.out (by rw [HS2.out]) (by rw [HS2.out]; exact hz), HS2.out])
            obtain ⟨cc, hcc⟩ : ∃ cc, cc = lchk ns := ⟨_, rfl⟩
            rw [← hcc] at C0 HLC HQA HQB
            have HROW := Lib.hid hrow
            have HRD := Lib.hid hr
            have HGR := Lib.hid hgr
            clear hcc hrow hr hgr
            rcases HLC with rfl | rfl | rfl
            · have HQQ := Lib.hid (HQA.out rfl)
              go_wp2_with fail
              refine C0.out.mono ?_
              rintro e w5 ⟨rfl, hb5⟩
              have HR5 := Lib.hid (HRD.out.later hb5)
              have HG5 := Lib.hid (grown_onto HGR.out hb5)
              have HW5 := Lib.hid (row_later HROW.out hb5)
              clear hb5
              go_wp2_with fail
              go_ret
              rw [HQQ.out]
              refine ⟨⟨AO, cO, ?_, ?_⟩, HR5.out, HG5.out⟩
              · rw [HNS.out]; rfl
              · rw [HNS.out]; exact HW5.out
            · have HQQ : Hid (Q = ([], a', 3)) := Lib.hid (HQB.out (by decide))
              go_wp2_with fail
              refine C0.out.mono ?_
              rintro e w5 ⟨rfl, hb5⟩
              have HR5 := Lib.hid (HRD.out.later hb5)
              have HG5 := Lib.hid (grown_onto HGR.out hb5)
              clear hb5
              go_wp2_with fail
              refine (rr_fail base g (l.drop a') 0 3 _ HR5.out).mono ?_
              rintro e w6 ⟨rfl, hr6, hg6⟩
              rw [failOut_zero] at hr6
              have HR6 := Lib.hid hr6
              have HG6 := Lib.hid (HG5.out.trans hg6)
              clear hr6 hg6 HR5 HG5
              go_wp2_with fail
              go_ret
              rw [HQQ.out]
              exact ⟨⟨none, 0, rfl, World.ownsRow_nil _ _ _ _⟩, HR6.out, HG6.out⟩
            · have HQQ : Hid (Q = ([], a', 5)) := Lib.hid (HQB.out (by decide))
              go_wp2_with fail
              refine C0.out.mono ?_
              rintro e w5 ⟨rfl, hb5⟩
              have HR5 := Lib.hid (HRD.out.later hb5)
              have HG5 := Lib.hid (grown_onto HGR.out hb5)
              clear hb5
              go_wp2_with fail
              refine (rr_fail base g (l.drop a') 0 5 _ HR5.out).mono ?_
              rintro e w6 ⟨rfl, hr6, hg6⟩
              rw [failOut_zero] at hr6
              have HR6 := Lib.hid hr6
              have HG6 := Lib.hid (HG5.out.trans hg6)
              clear hr6 hg6 HR5 HG5
              go_wp2_with fail
              go_ret
              rw [HQQ.out]
              exact ⟨⟨none, 0, rfl, World.ownsRow_nil _ _ _ _⟩, HR6.out, HG6.out⟩
        · have HQQ := Lib.hid hQQ
          have bz : (E == 0) = false := by simp [hE]
          have bz2 : (E != 0) = true := by simp [hE]
          have HRD := Lib.hid hr
          have HGR := Lib.hid hgr
          clear hE hQQ hr hgr hrow
          by_cases hlt : k < n
          · have d1 : decide ((k : Int) < (n : Int)) = true := by simp; omega
            go_wp2_with fail
            go_ret
            rw [HQQ.out]
            exact ⟨⟨none, 0, rfl, World.ownsRow_nil _ _ _ _⟩, HRD.out, HGR.out⟩
          · have d1 : decide ((k : Int) < (n : Int)) = false := by simp; omega
            go_wp2_with fail
            go_ret
            rw [HQQ.out]
            exact ⟨⟨none, 0, rfl, World.ownsRow_nil _ _ _ _⟩, HRD.out, HGR.out⟩
  · have HE : Hid (e0 = ez) := Lib.hid (by rw [HE0.out, if_neg h0])
    have hez0 : ez = 0 := by
      by_cases hz : ez = 0
      · exact hz
      · exact absurd (HZ'.out (by rw [HE.out]; exact hz)) h0
    subst hez0
    have bn : ((n : Int) == 0) = false := by simp [h0]
    have bnn : (n == 0) = false := by simp [h0]
    have HR1' : Hid (Rr w1 base g (l.drop a0) e0) := Lib.hid (by rw [HE.out]; exact hr1)
    have HG1 := Lib.hid hg1
    clear h0 hr1 hg1
    go_wp2_with fail
    go_loopw [5, 4] (fun i v wr => ∃ (k a' : Nat) (ns : List Nd) (E : Int) (AO : Option Addr) (cO : Nat), k ≤ n ∧ i = .int .i64 k ∧ v = .slice AO k cO ∧ Hid (J k ns a' E) ∧ ns.length = k ∧ a' ≤ l.length ∧ wr.ownsRow w.heap.size 71 5 (.slice AO k cO) k (ncs ns) ∧ Rr wr base g (l.drop a') E ∧ w.grownBy wr (some g)) (fun i _ _ => n - (intOf i).toNat)
    case atStart => exact HSTART.out _ HR1'.out HG1.out
    case round =>
      obtain ⟨k, a', ns, E, AO, cO, hk, rfl, rfl, HS, hnsl, ha', hrow, hr, hgr⟩ := hrel
      have HNS : Hid (ns.length = k) := Lib.hid hnsl
      have hwz := hgr.size
      have x1 := hr.facts.2.1
      have hJ := HS.out
      rw [HJ.out] at hJ
      clear hnsl
      rcases hJ with ⟨rfl, hS, hE00⟩ | ⟨hE, hQQ⟩
      · have HS2 := Lib.hid hS
        have HE00 := Lib.hid hE00
        clear hS hE00 HS
        by_cases hlt : k < n
        · have d1 : decide ((k : Int) < (n : Int)) = true := by simp; omega
          have HN := Lib.hid (rr_node base g l a' wr hr ha' hm)
          have hqa : (nodeOut l a').2.1 ≤ l.length := nodeOut_at ha'
          have HSTEP : Hid (nodesOut l (k + 1) a0 = (ns ++ [(nodeOut l a').1], (nodeOut l a').2)) := Lib.hid (by have := nodes_step (l := l) (a := a0) (k := k) (by rw [HS2.out]); rw [HS2.out] at this; exact this)
          have HSTOP : Hid ((nodeOut l a').2.2 ≠ 0 → Q = ([], (nodeOut l a').2)) := Lib.hid (fun hz => by
            have h1 := nodes_stuck (l := l) (a := a0) (k := k + 1) (by rw [HSTEP.out]; exact hz) n (by omega)
            rw [HSTEP.out] at h1
            have h2 := HQ1.out HE00.out (by rw [h1]; exact hz)
            rw [h2, h1])
          obtain ⟨⟨⟨o1, m1, y0, y1, y2⟩, a3, e3⟩, hq3⟩ : ∃ q, q = nodeOut l a' := ⟨_, rfl⟩
          rw [← hq3] at HN HSTEP HSTOP hqa
          simp only at HN HSTEP HSTOP hqa
          have HN1 : Hid (Calls Try.prog 84 #[.pointer (some ⟨g, 0, none⟩)] wr fun x w' => x = .returned (.agg #[.int .i64 o1, .int .i64 m1, .int .i64 y0, .int .i64 y1, .string y2]) ∧ Rr w' base g (l.drop a3) e3 ∧ wr.grownBy w' (some g)) := Lib.hid HN.out
          have HNC : Hid (ncs ns ++ [.int .i64 o1, .int .i64 m1, .int .i64 y0, .int .i64 y1, .string y2] = ncs (ns ++ [(o1, m1, y0, y1, y2)])) := Lib.hid (by rw [ncs_append]; rfl)
          have HNEW : Hid (J (k + 1) (ns ++ [(o1, m1, y0, y1, y2)]) a3 e3) := Lib.hid (by
            rw [HJ.out]
            by_cases hz : e3 = 0
            · exact .inl ⟨hz, by rw [HSTEP.out, hz], HE00.out⟩
            · exact .inr ⟨hz, HSTOP.out hz⟩)
          have HRW := Lib.hid hrow
          have HGR := Lib.hid hgr
          clear hq3 hrow hr hgr
          go_wp2_with fail
          refine HN1.out.mono ?_
          rintro e w3 ⟨rfl, hr3, hg3⟩
          have HR3 := Lib.hid hr3
          have HG3 := Lib.hid (HGR.out.trans hg3)
          have HW3 := Lib.hid (row_other HRW.out hg3 HGLT.out)
          have HR1 := Lib.hid (World.ownsRow.alloc HW3.out (.cells #[.int .i64 o1, .int .i64 m1, .int .i64 y0, .int .i64 y1, .string y2] 71))
          have hw3 := HG3.out.size
          clear hr3 hg3 x1
          go_wp2_with (first
            | (at_builtin
               refine wpList_appk _ rfl (.tmp 33) (.tmp 36) 23 rfl w.heap.size 71 i1 _ 5 48 Try.underlying23 ji jz0 jz1 jz2 rfl (by decide) (.slice AO k cO) k (ncs ns) rfl HR1.out (w3.heap.size + 1) (some ⟨w3.heap.size, 0, none⟩) 1 [.int .i64 o1, .int .i64 m1, .int .i64 y0, .int .i64 y1, .string y2] 1 rfl rfl (sees_lit w3 #[.int .i64 o1, .int .i64 m1, .int .i64 y0, .int .i64 y1, .string y2] 71 (0, 0) [.int .i64 o1, .int .i64 m1, .int .i64 y0, .int .i64 y1, .string y2] rfl) (by simp [Value.oneCell']) (by unfold maxLen; omega) (by omega) (by simp; omega) ?_
               intro A5 c5 w5 hr5 hb5 hg5 hat5)
            | fail)
          rw [HNC.out] at hr5
          have hbz3 := (Below.refl w3.heap.size w3).alloc (Nat.le_refl _) (.cells #[.int .i64 o1, .int .i64 m1, .int .i64 y0, .int .i64 y1, .string y2] 71)
          have hR5 := (HR3.out.later hbz3).row hg5 (fun q hq => by have := (HR1.out.lt q hq).1; have := HGLT.out; omega)
          have hG5 := grown_row (grown_onto HG3.out hbz3) hg5 (fun q hq => (HR1.out.lt q hq).1)
          have hl5 : (ns ++ [(o1, m1, y0, y1, y2)]).length = k + 1 := by rw [List.length_append, HNS.out]; rfl
          clear hbz3
          go_roundw
          case rel => exact ⟨k + 1, a3, ns ++ [(o1, m1, y0, y1, y2)], e3, A5, c5, by omega, by go_num, rfl, HNEW, hl5, hqa, hr5, hR5, hG5⟩
          case measure => simp [intOf]; omega
        · obtain rfl : k = n := by omega
          have HLC := lchk_few (l := ns) (by rw [HNS.out]; omega)
          have C0 := Lib.hid (rlcheck_any AO k cO ns wr HNS.out (row_sees hrow) (row_cap hrow))
          have HQA : Hid (lchk ns = 0 → Q = (ns, a', 0)) := Lib.hid (fun hz => by rw [HQ2.out HE00.out (by rw [HS2.out]) (by rw [HS2.out]; exact hz), HS2.out])
          have HQB : Hid (lchk ns ≠ 0 → Q = ([], a', if lchk ns = 1 then 3 else lchk ns)) := Lib.hid (fun hz => by rw [HQ3.out HE00.out (by rw [HS2.out]) (by rw [HS2.out]; exact hz), HS2.out])
          obtain ⟨cc, hcc⟩ : ∃ cc, cc = lchk ns := ⟨_, rfl⟩
          rw [← hcc] at C0 HLC HQA HQB
          have HROW := Lib.hid hrow
          have HRD := Lib.hid hr
          have HGR := Lib.hid hgr
          clear hcc hrow hr hgr
          rcases HLC with rfl | rfl | rfl
          · have HQQ := Lib.hid (HQA.out rfl)
            go_wp2_with fail
            refine C0.out.mono ?_
            rintro e w5 ⟨rfl, hb5⟩
            have HR5 := Lib.hid (HRD.out.later hb5)
            have HG5 := Lib.hid (grown_onto HGR.out hb5)
            have HW5 := Lib.hid (row_later HROW.out hb5)
            clear hb5
            go_wp2_with fail
            go_ret
            rw [HQQ.out]
            refine ⟨⟨AO, cO, ?_, ?_⟩, HR5.out, HG5.out⟩
            · rw [HNS.out]; rfl
            · rw [HNS.out]; exact HW5.out
          · have HQQ : Hid (Q = ([], a', 3)) := Lib.hid (HQB.out (by decide))
            go_wp2_with fail
            refine C0.out.mono ?_
            rintro e w5 ⟨rfl, hb5⟩
            have HR5 := Lib.hid (HRD.out.later hb5)
            have HG5 := Lib.hid (grown_onto HGR.out hb5)
            clear hb5
            go_wp2_with fail
            refine (rr_fail base g (l.drop a') 0 3 _ HR5.out).mono ?_
            rintro e w6 ⟨rfl, hr6, hg6⟩
            rw [failOut_zero] at hr6
            have HR6 := Lib.hid hr6
            have HG6 := Lib.hid (HG5.out.trans hg6)
            clear hr6 hg6 HR5 HG5
            go_wp2_with fail
            go_ret
            rw [HQQ.out]
            exact ⟨⟨none, 0, rfl, World.ownsRow_nil _ _ _ _⟩, HR6.out, HG6.out⟩
          · have HQQ : Hid (Q = ([], a', 5)) := Lib.hid (HQB.out (by decide))
            go_wp2_with fail
            refine C0.out.mono ?_
            rintro e w5 ⟨rfl, hb5⟩
            have HR5 := Lib.hid (HRD.out.later hb5)
            have HG5 := Lib.hid (grown_onto HGR.out hb5)
            clear hb5
            go_wp2_with fail
            refine (rr_fail base g (l.drop a') 0 5 _ HR5.out).mono ?_
            rintro e w6 ⟨rfl, hr6, hg6⟩
            rw [failOut_zero] at hr6
            have HR6 := Lib.hid hr6
            have HG6 := Lib.hid (HG5.out.trans hg6)
            clear hr6 hg6 HR5 HG5
            go_wp2_with fail
            go_ret
            rw [HQQ.out]
            exact ⟨⟨none, 0, rfl, World.ownsRow_nil _ _ _ _⟩, HR6.out, HG6.out⟩
      · have HQQ := Lib.hid hQQ
        have bz : (E == 0) = false := by simp [hE]
        have bz2 : (E != 0) = true := by simp [hE]
        have HRD := Lib.hid hr
        have HGR := Lib.hid hgr
        clear hE hQQ hr hgr hrow
        by_cases hlt : k < n
        · have d1 : decide ((k : Int) < (n : Int)) = true := by simp; omega
          go_wp2_with fail
          go_ret
          rw [HQQ.out]
          exact ⟨⟨none, 0, rfl, World.ownsRow_nil _ _ _ _⟩, HRD.out, HGR.out⟩
        · have d1 : decide ((k : Int) < (n : Int)) = false := by simp; omega
          go_wp2_with fail
          go_ret
          rw [HQQ.out]
          exact ⟨⟨none, 0, rfl, World.ownsRow_nil _ _ _ _⟩, HRD.out, HGR.out⟩
end Go.Proofs.Ytadmaalhhigbeaa

/- Ledger: what the document's Read returns. -/
namespace Go.Proofs.Ytadmaalhhigbeaa
set_option linter.unusedVariables false
set_option linter.unusedSimpArgs false
open Go Go.RowKit OctM BitM

def RepReadR (w : World) (base g : Nat) (l : List UInt8) (q : Rq × Nat × Int) : Ending → World → Prop := fun x w' => (∃ r, x = .returned (.agg (rpc r).toArray) ∧ okRp w' r ∧ rab r = q.1 ∧ r.n ≤ 31 ∧ (∀ ad, r.A = some ad → w.heap.size ≤ ad.block)) ∧ Rr w' base g (l.drop q.2.1) q.2.2 ∧ w.grownBy w' (some g)
theorem below_gn {X Y : World} (h : Below X.heap.size X Y) : X.grownBy Y none := ⟨h.os, h.tape, h.output, h.size, fun k hk _ => h.block k hk⟩
/-- Amid the document's Read, ahead of the answer's own cells. -/
structure RtA (w : World) (base g : Nat) (l : List UInt8) (W : World) (a : Nat) (e : Int) : Prop where
  rr : Rr W base g (l.drop a) e
  z : Blk W w.heap.size [.int .i64 0, .int .i64 0, .int .i64 0, .int .i64 0, .int .i64 0, .int .i64 0, .int .i64 0, .int .i64 0, .slice none 0 0, .int .u32 0]
  gr : w.grownBy W (some g)
  hg : g < w.heap.size
theorem RtA.grow {w W W' : World} {base g : Nat} {l : List UInt8} {a a' : Nat} {e e' : Int} (h : RtA w base g l W a e) (hr : Rr W' base g (l.drop a') e') (hG : W.grownBy W' (some g)) : RtA w base g l W' a' e' := by
  have := h.hg
  exact ⟨hr, h.z.kept hG (by intro e; injection e with e; omega), h.gr.trans hG, h.hg⟩
structure RtB (w : World) (base g : Nat) (l : List UInt8) (b3 : Nat) (W : World) (a : Nat) (e : Int) (cs : List Value) : Prop where
  A : RtA w base g l W a e
  c : Blk W b3 cs
  h3 : w.heap.size < b3
theorem RtB.grow {w W W' : World} {base g b3 : Nat} {l : List UInt8} {a a' : Nat} {e e' : Int} {cs : List Value} (h : RtB w base g l b3 W a e cs) (hr : Rr W' base g (l.drop a') e') (hG : W.grownBy W' (some g)) : RtB w base g l b3 W' a' e' cs := by
  have := h.A.hg
  have := h.h3
  exact ⟨h.A.grow hr hG, h.c.kept hG (by intro e; injection e with e; omega), h.h3⟩
theorem RtB.num0 {w W : World} {base g b3 : Nat} {l : List UInt8} {a : Nat} {e : Int} {cs : List Value} (h : RtB w base g l b3 W a e cs) (hm : l.length ≤ 4000) (most : Int) (q : Nat × Nat × Int) (hq : q = lstOut l a e 0 most) (k : Int) (hk : k = (q.1 : Int)) :
    Calls Try.prog 53 #[.pointer (some ⟨g, 0, none⟩), .int .i64 most] W fun x w' => x = .returned (.int .i64 k) ∧ RtB w base g l b3 w' q.2.1 q.2.2 cs ∧ W.grownBy w' (some g) := by
  subst hk
  subst hq
  refine (rr_lst0 base g l a e most W h.A.rr hm).mono ?_
  rintro x w' ⟨rfl, hr, hG⟩
  exact ⟨rfl, h.grow hr hG, hG⟩
theorem RtB.num1 {w W : World} {base g b3 : Nat} {l : List UInt8} {a : Nat} {e : Int} {cs : List Value} (h : RtB w base g l b3 W a e cs) (hm : l.length ≤ 4000) (most : Int) (q : Nat × Nat × Int) (hq : q = lstOut l a e 1 most) (k : Int) (hk : k = (q.1 : Int)) :
    Calls Try.prog 55 #[.pointer (some ⟨g, 0, none⟩), .int .i64 most] W fun x w' => x = .returned (.int .i64 k) ∧ RtB w base g l b3 w' q.2.1 q.2.2 cs ∧ W.grownBy w' (some g) := by
  subst hk
  subst hq
  refine (rr_lst1 base g l a e most W h.A.rr hm).mono ?_
  rintro x w' ⟨rfl, hr, hG⟩
  exact ⟨rfl, h.grow hr hG, hG⟩
theorem RtB.set {w W : World} {base g b3 : Nat} {l : List UInt8} {a : Nat} {e : Int} {cs : List Value} (h : RtB w base g l b3 W a e cs) (j : Nat) (v : Value) : RtB w base g l b3 (W.setCell ⟨b3, j, none⟩ v) a e (cs.set j v) := by
  have h1 := h.A.hg
  have h2 := h.h3
  have hG := grown_sets b3 [v] j W
  exact ⟨⟨h.A.rr.row hG (fun q e => by injection e with e; omega), h.A.z.setOther j v (by omega), grown_row h.A.gr hG (fun q e => by injection e with e; omega), h1⟩, h.c.set j v, h2⟩
theorem RtA.alloc {w W : World} {base g : Nat} {l : List UInt8} {a : Nat} {e : Int} (h : RtA w base g l W a e) (cs : List Value) : RtB w base g l W.heap.size (W.alloc (.cells cs.toArray 26)) a e cs :=
  ⟨⟨h.rr.row (below_gn (below_a1 _ _)) (fun q e => by cases e), h.z.alloc _, grown_onto h.gr (below_a1 _ _), h.hg⟩, Blk.new _ _ _, h.z.lt⟩
theorem RtA.fin {w W : World} {base g : Nat} {l : List UInt8} {a : Nat} {e : Int} (h : RtA w base g l W a e) (r : Rp) (T : Rq × Nat × Int) (hT : T = (rab r, a, e)) (hok : okRp (W.setCells w.heap.size 0 (rpc r)) r) (hn : r.n ≤ 31) (hf : ∀ ad, r.A = some ad → w.heap.size ≤ ad.block) :
    RepReadR w base g l T (.returned (.agg (rpc r).toArray)) (W.setCells w.heap.size 0 (rpc r)) ∧ Blk (W.setCells w.heap.size 0 (rpc r)) w.heap.size (rpc r) ∧ W.there w.heap.size 0 10 := by
  have h1 := h.hg
  subst hT
  have hb := h.z.sets (rpc r) 0 (by rw [rpc_len]; simp)
  rw [List.take_zero, List.nil_append, List.drop_eq_nil_of_le (by rw [rpc_len]; simp), List.append_nil] at hb
  have hG := grown_sets w.heap.size (rpc r) 0 W
  exact ⟨⟨⟨r, rfl, hok, rfl, hn, hf⟩, h.rr.row hG (fun q e => by injection e with e; omega), grown_row h.gr hG (fun q e => by injection e with e; omega)⟩, hb, h.z.there 0 10 (by simp)⟩
theorem lg4_chain {l : List UInt8} {a : Nat} {e : Int} (h : (lg4 l a e).2.2 = 0) : (lg1 l a e).2.2 = 0 := by
  refine Classical.byContradiction fun h1 => ?_
  have e2 : lg2 l a e = (0, (lg1 l a e).2) := by unfold lg2; exact lst_err _ _ h1
  have h2 : (lg2 l a e).2.2 ≠ 0 := by rw [e2]; exact h1
  have e3 : lg3 l a e = (0, (lg1 l a e).2) := by unfold lg3; rw [lst_err _ _ h2, e2]
  have h3 : (lg3 l a e).2.2 ≠ 0 := by rw [e3]; exact h1
  have e4 : lg4 l a e = (0, (lg1 l a e).2) := by unfold lg4; rw [lst_err _ _ h3, e3]
  rw [e4] at h
  exact h1 h
theorem lg1_ok {l : List UInt8} {a : Nat} {e : Int} (h : (lg1 l a e).2.2 = 0) : (numOut l a e 4).2.2 = 0 ∧ ¬ ((numOut l a e 4).1 : Int) < 2 := by
  unfold lg1 lstOut at h
  simp only at h
  split at h
  · unfold failOut at h
    split at h
    · cases h
    · rename_i h1 h2
      exact absurd h h2
  · rename_i h1
    exact ⟨h, h1⟩
end Go.Proofs.Ytadmaalhhigbeaa

/- Ledger: what the document's Read returns: a case. -/
namespace Go.Proofs.Ytadmaalhhigbeaa
set_option linter.unusedVariables false
set_option linter.unusedSimpArgs false
open Go Go.RowKit OctM BitM

set_option maxRecDepth 100000 in
set_option maxHeartbeats 6400000 in
theorem rlread_e1err (base g : Nat) (l : List UInt8) (a : Nat) (e : Int) (w : World) (h : Rr w base g (l.drop a) e) (hgl : g < w.heap.size) (ha : a ≤ l.length) (hm : l.length ≤ 4000) (n0 : (numOut l a e 4).2.2 ≠ 0) (z4 : (lg4 l a e).2.2 ≠ 0) :
    Calls Try.prog 17 #[.pointer (some ⟨g, 0, none⟩)] w (RepReadR w base g l (repOut l a e)) := by
  have hu := Try.underlying26
  obtain ⟨T, hT⟩ : ∃ T, T = repOut l a e := ⟨_, rfl⟩
  rw [← hT]
  have HN := Lib.hid (fun wx (hx : Rr wx base g (l.drop a) e) => rr_numd base g l a e 4 wx hx hm)
  obtain ⟨q0, hq0⟩ : ∃ q, q = numOut l a e 4 := ⟨_, rfl⟩
  obtain ⟨q1, hq1⟩ : ∃ q, q = lg1 l a e := ⟨_, rfl⟩
  have f1 : q1.1 = q0.1 := by rw [hq1, hq0]; rfl
  have f2 : q1.2.1 = q0.2.1 := by rw [hq1, hq0]; rfl
  have f3 : q1.2.2 = (if (q0.1 : Int) < 2 then failOut q0.2.2 3 else q0.2.2) := by rw [hq1, hq0]; rfl
  rw [← hq0] at HN n0
  obtain ⟨k1, hk1⟩ : ∃ k : Int, k = (q0.1 : Int) := ⟨_, rfl⟩
  have hk1' : k1 = (q1.1 : Int) := by rw [hk1, f1]
  rw [← hk1] at HN f3
  have f4 : q1.2.2 = q0.2.2 := by rw [f3, failOut_not _ _ n0]; split <;> rfl
  have b1 : (q0.2.2 == 0) = false := by simpa using n0
  have HF2 := Lib.hid f2
  have HF4 := Lib.hid f4
  obtain ⟨q2, hq2⟩ : ∃ q, q = lg2 l a e := ⟨_, rfl⟩
  have eq2 : q2 = lstOut l q1.2.1 q1.2.2 0 5 := by rw [hq2, hq1]; rfl
  obtain ⟨k2, hk2⟩ : ∃ k : Int, k = (q2.1 : Int) := ⟨_, rfl⟩
  obtain ⟨q3, hq3⟩ : ∃ q, q = lg3 l a e := ⟨_, rfl⟩
  have eq3 : q3 = lstOut l q2.2.1 q2.2.2 1 1099511627776 := by rw [hq3, hq2]; rfl
  obtain ⟨k3, hk3⟩ : ∃ k : Int, k = (q3.1 : Int) := ⟨_, rfl⟩
  obtain ⟨q4, hq4⟩ : ∃ q, q = lg4 l a e := ⟨_, rfl⟩
  have eq4 : q4 = lstOut l q3.2.1 q3.2.2 0 16 := by rw [hq4, hq3]; rfl
  obtain ⟨k4, hk4⟩ : ∃ k : Int, k = (q4.1 : Int) := ⟨_, rfl⟩
  rw [← hq4] at z4
  have hHT0 : T = (zrq, q4.2) := by rw [hT, rep_err (by rw [← hq4]; exact z4), ← hq4]
  have hHT : T = (zrq, q4.2.1, q4.2.2) := hHT0
  have b4 : (q4.2.2 == 0) = false := by simpa using z4
  have b5 : (q4.2.2 != 0) = true := by simpa using z4
  have HT := Lib.hid hHT
  have EQ2 := Lib.hid eq2
  have EQ3 := Lib.hid eq3
  have EQ4 := Lib.hid eq4
  have HK2 := Lib.hid hk2
  have HK3 := Lib.hid hk3
  have HK4 := Lib.hid hk4
  have HK1 := Lib.hid hk1
  clear hHT hHT0 hT hq0 hq1 f1 f2 f3 f4 n0 hk1 hk1' z4 hq2 eq2 hk2 hq3 eq3 hk3 hq4 eq4 hk4
  obtain ⟨W0, hW0⟩ : ∃ W0, W0 = w.alloc (.cells #[.int .i64 0, .int .i64 0, .int .i64 0, .int .i64 0, .int .i64 0, .int .i64 0, .int .i64 0, .int .i64 0, .slice none 0 0, .int .u32 0] 26) := ⟨_, rfl⟩
  have hs0 : RtA w base g l W0 a e := by
    rw [hW0]
    exact ⟨h.row (below_gn (below_a1 _ _)) (fun q e => by cases e), Blk.new w [.int .i64 0, .int .i64 0, .int .i64 0, .int .i64 0, .int .i64 0, .int .i64 0, .int .i64 0, .int .i64 0, .slice none 0 0, .int .u32 0] _, grown_onto (World.grownBy.refl w (some g)) (below_a1 _ _), hgl⟩
  have HS0 := Lib.hid hs0
  have HW0 := Lib.hid hW0
  clear hW0 hs0 h
  go_enter Try.func17, Try.ntmps17
  go_wp2_with fail
  rw [← HW0.out]
  refine (HN.out W0 HS0.out.rr).mono ?_
  rintro x w1 ⟨rfl, hr1, hG1⟩
  have HS1 := Lib.hid (HS0.out.grow hr1 hG1)
  clear hr1 hG1 HS0 HW0 HN
  obtain ⟨W2, hW2⟩ : ∃ W2, W2 = w1.alloc (.cells #[.int .i64 k1, .int .i64 0, .int .i64 0, .int .i64 0, .int .i64 0, .int .i64 0, .int .i64 0, .int .i64 0, .slice none 0 0, .int .u32 0] 26) := ⟨_, rfl⟩
  have hs2 : RtB w base g l w1.heap.size W2 q0.2.1 q0.2.2 [.int .i64 k1, .int .i64 0, .int .i64 0, .int .i64 0, .int .i64 0, .int .i64 0, .int .i64 0, .int .i64 0, .slice none 0 0, .int .u32 0] := by rw [hW2]; exact HS1.out.alloc _
  have HW2 := Lib.hid hW2
  have HS2 := Lib.hid hs2
  have ke := HS1.out.rr.facts.2.1
  have hg1 : g < w1.heap.size := Nat.lt_trans hgl HS1.out.z.lt
  have hlt1 := HS1.out.z.lt
  clear hW2 hs2 HS1
  generalize q0.2.2 = e0 at *
  generalize q0.2.1 = a0 at *
  go_wp2_with fail
  rw [← HW2.out]
  clear HW2 ke hg1 hlt1
  generalize w1.heap.size = b3 at *
  have hs3 := HS2.out
  rw [← HF2.out, ← HF4.out] at hs3
  have HS3 := Lib.hid hs3
  clear hs3 HS2
  refine (HS3.out.num0 hm 5 q2 EQ2.out k2 HK2.out).mono ?_
  rintro x w11 ⟨rfl, hs11, hG11⟩
  have HS11 := Lib.hid hs11
  clear hs11 hG11 HS3
  have ke := HS11.out.A.rr.facts.2.1
  have hn1 := HS11.out.h3
  have hn2 : g ≠ b3 := by omega
  have hn3 : b3 ≠ g := by omega
  have kz0 := HS11.out.c.cell (j := 0) rfl
  have kc1 := HS11.out.c.cell (j := 1) rfl
  have kf1 := HS11.out.c.frozen 1
  have hs12 : RtB w base g l b3 (w11.setCell ⟨b3, 1, none⟩ (.int .i64 k2)) q2.2.1 q2.2.2 [.int .i64 k1, .int .i64 k2, .int .i64 0, .int .i64 0, .int .i64 0, .int .i64 0, .int .i64 0, .int .i64 0, .slice none 0 0, .int .u32 0] := HS11.out.set 1 (.int .i64 k2)
  have HS12 := Lib.hid hs12
  clear hs12
  obtain ⟨W13, hW13⟩ : ∃ W, W = w11.setCell ⟨b3, 1, none⟩ (.int .i64 k2) := ⟨_, rfl⟩
  have hs13 := HS12.out
  rw [← hW13] at hs13
  have HS13 := Lib.hid hs13
  have HW13 := Lib.hid hW13
  clear hs13 hW13
  go_wp2_with fail
  rw [← HW13.out]
  clear HW13 HS11 HS12
  clear ke hn1 hn2 hn3 kz0 kc1 kf1
  refine (HS13.out.num1 hm 1099511627776 q3 EQ3.out k3 HK3.out).mono ?_
  rintro x w14 ⟨rfl, hs14, hG14⟩
  have HS14 := Lib.hid hs14
  clear hs14 hG14 HS13
  have ke := HS14.out.A.rr.facts.2.1
  have hn1 := HS14.out.h3
  have hn2 : g ≠ b3 := by omega
  have hn3 : b3 ≠ g := by omega
  have kz0 := HS14.out.c.cell (j := 0) rfl
  have kc2 := HS14.out.c.cell (j := 2) rfl
  have kf2 := HS14.out.c.frozen 2
  have hs15 : RtB w base g l b3 (w14.setCell ⟨b3, 2, none⟩ (.int .i64 k3)) q3.2.1 q3.2.2 [.int .i64 k1, .int .i64 k2, .int .i64 k3, .int .i64 0, .int .i64 0, .int .i64 0, .int .i64 0, .int .i64 0, .slice none 0 0, .int .u32 0] := HS14.out.set 2 (.int .i64 k3)
  have HS15 := Lib.hid hs15
  clear hs15
  obtain ⟨W16, hW16⟩ : ∃ W, W = w14.setCell ⟨b3, 2, none⟩ (.int .i64 k3) := ⟨_, rfl⟩
  have hs16 := HS15.out
  rw [← hW16] at hs16
  have HS16 := Lib.hid hs16
  have HW16 := Lib.hid hW16
  clear hs16 hW16
  go_wp2_with fail
  rw [← HW16.out]
  clear HW16 HS14 HS15
  clear ke hn1 hn2 hn3 kz0 kc2 kf2
  refine (HS16.out.num0 hm 16 q4 EQ4.out k4 HK4.out).mono ?_
  rintro x w17 ⟨rfl, hs17, hG17⟩
  have HS17 := Lib.hid hs17
  clear hs17 hG17 HS16
  have ke := HS17.out.A.rr.facts.2.1
  have hn1 := HS17.out.h3
  have hn2 : g ≠ b3 := by omega
  have hn3 : b3 ≠ g := by omega
  have kz0 := HS17.out.c.cell (j := 0) rfl
  have kc3 := HS17.out.c.cell (j := 3) rfl
  have kf3 := HS17.out.c.frozen 3
  have hs18 : RtB w base g l b3 (w17.setCell ⟨b3, 3, none⟩ (.int .i64 k4)) q4.2.1 q4.2.2 [.int .i64 k1, .int .i64 k2, .int .i64 k3, .int .i64 k4, .int .i64 0, .int .i64 0, .int .i64 0, .int .i64 0, .slice none 0 0, .int .u32 0] := HS17.out.set 3 (.int .i64 k4)
  have HS18 := Lib.hid hs18
  clear hs18
  generalize q4.2.2 = e4 at *
  generalize q4.2.1 = a4 at *
  have hTT : T = (rab zrp, a4, e4) := by rw [HT.out]; rfl
  have hfin := HS18.out.A.fin zrp T hTT (okRp.zero _) (by simp [zrp]) (fun ad e => by cases e)
  have honr := all_oneCell_toArray (rpc_one zrp)
  have hlnr := rpc_len zrp
  obtain ⟨cr, hcr⟩ : ∃ cr, cr = rpc zrp := ⟨_, rfl⟩
  rw [← hcr] at hfin honr hlnr
  obtain ⟨W9, hW9⟩ : ∃ W9, W9 = (w17.setCell ⟨b3, 3, none⟩ (.int .i64 k4)).setCells w.heap.size 0 cr := ⟨_, rfl⟩
  rw [← hW9] at hfin
  have HFIN := Lib.hid hfin.1
  have FIN := Lib.hid hfin.2.1
  have TH := hfin.2.2
  have HW9 := Lib.hid hW9
  have HLN := Lib.hid hlnr
  have HCR := Lib.hid hcr
  have HONE := Lib.hid honr
  clear hfin hTT hW9 hcr honr hlnr
  go_wp2_with (first
    | (refine wpList_store_mid rfl 26 (.tmp 2) (.tmp 68) rfl w.heap.size 0 cr.toArray rfl (by rw [HCR.out]; rfl) (by simpa [HLN.out] using TH) (by simpa [HLN.out] using info_rp) HONE.out ?_
       rw [← HW9.out])
    | fail)
  exact bodyPost_ret (v := .agg cr.toArray) (results_blk (q := 2) rfl _ _ w.heap.size cr _ rfl FIN.out hu rfl (by rw [HLN.out]; exact info_rp)) rfl HFIN.out
end Go.Proofs.Ytadmaalhhigbeaa

/- Ledger: what the document's Read returns: a case. -/
namespace Go.Proofs.Ytadmaalhhigbeaa
set_option linter.unusedVariables false
set_option linter.unusedSimpArgs false
open Go Go.RowKit OctM BitM

set_option maxRecDepth 100000 in
set_option maxHeartbeats 6400000 in
theorem rlread_e2err (base g : Nat) (l : List UInt8) (a : Nat) (e : Int) (w : World) (h : Rr w base g (l.drop a) e) (hgl : g < w.heap.size) (ha : a ≤ l.length) (hm : l.length ≤ 4000) (n0 : (numOut l a e 4).2.2 = 0) (n1 : ((numOut l a e 4).1 : Int) < 2) (z4 : (lg4 l a e).2.2 ≠ 0) :
    Calls Try.prog 17 #[.pointer (some ⟨g, 0, none⟩)] w (RepReadR w base g l (repOut l a e)) := by
  have hu := Try.underlying26
  obtain ⟨T, hT⟩ : ∃ T, T = repOut l a e := ⟨_, rfl⟩
  rw [← hT]
  have HN := Lib.hid (fun wx (hx : Rr wx base g (l.drop a) e) => rr_numd base g l a e 4 wx hx hm)
  obtain ⟨q0, hq0⟩ : ∃ q, q = numOut l a e 4 := ⟨_, rfl⟩
  obtain ⟨q1, hq1⟩ : ∃ q, q = lg1 l a e := ⟨_, rfl⟩
  have f1 : q1.1 = q0.1 := by rw [hq1, hq0]; rfl
  have f2 : q1.2.1 = q0.2.1 := by rw [hq1, hq0]; rfl
  have f3 : q1.2.2 = (if (q0.1 : Int) < 2 then failOut q0.2.2 3 else q0.2.2) := by rw [hq1, hq0]; rfl
  rw [← hq0] at HN n0 n1
  obtain ⟨k1, hk1⟩ : ∃ k : Int, k = (q0.1 : Int) := ⟨_, rfl⟩
  have hk1' : k1 = (q1.1 : Int) := by rw [hk1, f1]
  rw [← hk1] at HN f3 n1
  have f4 : q1.2.2 = failOut q0.2.2 3 := by rw [f3, if_pos n1]
  have b1 : (q0.2.2 == 0) = true := by simpa using n0
  have b2 : decide (k1 < 2) = true := decide_eq_true n1
  have HF2 := Lib.hid f2
  have HF4 := Lib.hid f4
  obtain ⟨q2, hq2⟩ : ∃ q, q = lg2 l a e := ⟨_, rfl⟩
  have eq2 : q2 = lstOut l q1.2.1 q1.2.2 0 5 := by rw [hq2, hq1]; rfl
  obtain ⟨k2, hk2⟩ : ∃ k : Int, k = (q2.1 : Int) := ⟨_, rfl⟩
  obtain ⟨q3, hq3⟩ : ∃ q, q = lg3 l a e := ⟨_, rfl⟩
  have eq3 : q3 = lstOut l q2.2.1 q2.2.2 1 1099511627776 := by rw [hq3, hq2]; rfl
  obtain ⟨k3, hk3⟩ : ∃ k : Int, k = (q3.1 : Int) := ⟨_, rfl⟩
  obtain ⟨q4, hq4⟩ : ∃ q, q = lg4 l a e := ⟨_, rfl⟩
  have eq4 : q4 = lstOut l q3.2.1 q3.2.2 0 16 := by rw [hq4, hq3]; rfl
  obtain ⟨k4, hk4⟩ : ∃ k : Int, k = (q4.1 : Int) := ⟨_, rfl⟩
  rw [← hq4] at z4
  have hHT0 : T = (zrq, q4.2) := by rw [hT, rep_err (by rw [← hq4]; exact z4), ← hq4]
  have hHT : T = (zrq, q4.2.1, q4.2.2) := hHT0
  have b4 : (q4.2.2 == 0) = false := by simpa using z4
  have b5 : (q4.2.2 != 0) = true := by simpa using z4
  have HT := Lib.hid hHT
  have EQ2 := Lib.hid eq2
  have EQ3 := Lib.hid eq3
  have EQ4 := Lib.hid eq4
  have HK2 := Lib.hid hk2
  have HK3 := Lib.hid hk3
  have HK4 := Lib.hid hk4
  have HK1 := Lib.hid hk1
  clear hHT hHT0 hT hq0 hq1 f1 f2 f3 f4 n0 hk1 hk1' z4 n1 hq2 eq2 hk2 hq3 eq3 hk3 hq4 eq4 hk4
  obtain ⟨W0, hW0⟩ : ∃ W0, W0 = w.alloc (.cells #[.int .i64 0, .int .i64 0, .int .i64 0, .int .i64 0, .int .i64 0, .int .i64 0, .int .i64 0, .int .i64 0, .slice none 0 0, .int .u32 0] 26) := ⟨_, rfl⟩
  have hs0 : RtA w base g l W0 a e := by
    rw [hW0]
    exact ⟨h.row (below_gn (below_a1 _ _)) (fun q e => by cases e), Blk.new w [.int .i64 0, .int .i64 0, .int .i64 0, .int .i64 0, .int .i64 0, .int .i64 0, .int .i64 0, .int .i64 0, .slice none 0 0, .int .u32 0] _, grown_onto (World.grownBy.refl w (some g)) (below_a1 _ _), hgl⟩
  have HS0 := Lib.hid hs0
  have HW0 := Lib.hid hW0
  clear hW0 hs0 h
  go_enter Try.func17, Try.ntmps17
  go_wp2_with fail
  rw [← HW0.out]
  refine (HN.out W0 HS0.out.rr).mono ?_
  rintro x w1 ⟨rfl, hr1, hG1⟩
  have HS1 := Lib.hid (HS0.out.grow hr1 hG1)
  clear hr1 hG1 HS0 HW0 HN
  obtain ⟨W2, hW2⟩ : ∃ W2, W2 = w1.alloc (.cells #[.int .i64 k1, .int .i64 0, .int .i64 0, .int .i64 0, .int .i64 0, .int .i64 0, .int .i64 0, .int .i64 0, .slice none 0 0, .int .u32 0] 26) := ⟨_, rfl⟩
  have hs2 : RtB w base g l w1.heap.size W2 q0.2.1 q0.2.2 [.int .i64 k1, .int .i64 0, .int .i64 0, .int .i64 0, .int .i64 0, .int .i64 0, .int .i64 0, .int .i64 0, .slice none 0 0, .int .u32 0] := by rw [hW2]; exact HS1.out.alloc _
  have HW2 := Lib.hid hW2
  have HS2 := Lib.hid hs2
  have ke := HS1.out.rr.facts.2.1
  have hg1 : g < w1.heap.size := Nat.lt_trans hgl HS1.out.z.lt
  have hlt1 := HS1.out.z.lt
  clear hW2 hs2 HS1
  generalize q0.2.2 = e0 at *
  generalize q0.2.1 = a0 at *
  go_wp2_with fail
  rw [← HW2.out]
  clear HW2 ke hg1 hlt1
  generalize w1.heap.size = b3 at *
  refine (rr_fail base g (l.drop a0) e0 3 W2 HS2.out.A.rr).mono ?_
  rintro x w3 ⟨rfl, hr3, hG3⟩
  have hs3 := HS2.out.grow hr3 hG3
  rw [← HF2.out, ← HF4.out] at hs3
  have HS3 := Lib.hid hs3
  clear hs3 hr3 hG3 HS2
  go_wp2_with fail
  refine (HS3.out.num0 hm 5 q2 EQ2.out k2 HK2.out).mono ?_
  rintro x w11 ⟨rfl, hs11, hG11⟩
  have HS11 := Lib.hid hs11
  clear hs11 hG11 HS3
  have ke := HS11.out.A.rr.facts.2.1
  have hn1 := HS11.out.h3
  have hn2 : g ≠ b3 := by omega
  have hn3 : b3 ≠ g := by omega
  have kz0 := HS11.out.c.cell (j := 0) rfl
  have kc1 := HS11.out.c.cell (j := 1) rfl
  have kf1 := HS11.out.c.frozen 1
  have hs12 : RtB w base g l b3 (w11.setCell ⟨b3, 1, none⟩ (.int .i64 k2)) q2.2.1 q2.2.2 [.int .i64 k1, .int .i64 k2, .int .i64 0, .int .i64 0, .int .i64 0, .int .i64 0, .int .i64 0, .int .i64 0, .slice none 0 0, .int .u32 0] := HS11.out.set 1 (.int .i64 k2)
  have HS12 := Lib.hid hs12
  clear hs12
  obtain ⟨W13, hW13⟩ : ∃ W, W = w11.setCell ⟨b3, 1, none⟩ (.int .i64 k2) := ⟨_, rfl⟩
  have hs13 := HS12.out
  rw [← hW13] at hs13
  have HS13 := Lib.hid hs13
  have HW13 := Lib.hid hW13
  clear hs13 hW13
  go_wp2_with fail
  rw [← HW13.out]
  clear HW13 HS11 HS12
  clear ke hn1 hn2 hn3 kz0 kc1 kf1
  refine (HS13.out.num1 hm 1099511627776 q3 EQ3.out k3 HK3.out).mono ?_
  rintro x w14 ⟨rfl, hs14, hG14⟩
  have HS14 := Lib.hid hs14
  clear hs14 hG14 HS13
  have ke := HS14.out.A.rr.facts.2.1
  have hn1 := HS14.out.h3
  have hn2 : g ≠ b3 := by omega
  have hn3 : b3 ≠ g := by omega
  have kz0 := HS14.out.c.cell (j := 0) rfl
  have kc2 := HS14.out.c.cell (j := 2) rfl
  have kf2 := HS14.out.c.frozen 2
  have hs15 : RtB w base g l b3 (w14.setCell ⟨b3, 2, none⟩ (.int .i64 k3)) q3.2.1 q3.2.2 [.int .i64 k1, .int .i64 k2, .int .i64 k3, .int .i64 0, .int .i64 0, .int .i64 0, .int .i64 0, .int .i64 0, .slice none 0 0, .int .u32 0] := HS14.out.set 2 (.int .i64 k3)
  have HS15 := Lib.hid hs15
  clear hs15
  obtain ⟨W16, hW16⟩ : ∃ W, W = w14.setCell ⟨b3, 2, none⟩ (.int .i64 k3) := ⟨_, rfl⟩
  have hs16 := HS15.out
  rw [← hW16] at hs16
  have HS16 := Lib.hid hs16
  have HW16 := Lib.hid hW16
  clear hs16 hW16
  go_wp2_with fail
  rw [← HW16.out]
  clear HW16 HS14 HS15
  clear ke hn1 hn2 hn3 kz0 kc2 kf2
  refine (HS16.out.num0 hm 16 q4 EQ4.out k4 HK4.out).mono ?_
  rintro x w17 ⟨rfl, hs17, hG17⟩
  have HS17 := Lib.hid hs17
  clear hs17 hG17 HS16
  have ke := HS17.out.A.rr.facts.2.1
  have hn1 := HS17.out.h3
  have hn2 : g ≠ b3 := by omega
  have hn3 : b3 ≠ g := by omega
  have kz0 := HS17.out.c.cell (j := 0) rfl
  have kc3 := HS17.out.c.cell (j := 3) rfl
  have kf3 := HS17.out.c.frozen 3
  have hs18 : RtB w base g l b3 (w17.setCell ⟨b3, 3, none⟩ (.int .i64 k4)) q4.2.1 q4.2.2 [.int .i64 k1, .int .i64 k2, .int .i64 k3, .int .i64 k4, .int .i64 0, .int .i64 0, .int .i64 0, .int .i64 0, .slice none 0 0, .int .u32 0] := HS17.out.set 3 (.int .i64 k4)
  have HS18 := Lib.hid hs18
  clear hs18
  generalize q4.2.2 = e4 at *
  generalize q4.2.1 = a4 at *
  have hTT : T = (rab zrp, a4, e4) := by rw [HT.out]; rfl
  have hfin := HS18.out.A.fin zrp T hTT (okRp.zero _) (by simp [zrp]) (fun ad e => by cases e)
  have honr := all_oneCell_toArray (rpc_one zrp)
  have hlnr := rpc_len zrp
  obtain ⟨cr, hcr⟩ : ∃ cr, cr = rpc zrp := ⟨_, rfl⟩
  rw [← hcr] at hfin honr hlnr
  obtain ⟨W9, hW9⟩ : ∃ W9, W9 = (w17.setCell ⟨b3, 3, none⟩ (.int .i64 k4)).setCells w.heap.size 0 cr := ⟨_, rfl⟩
  rw [← hW9] at hfin
  have HFIN := Lib.hid hfin.1
  have FIN := Lib.hid hfin.2.1
  have TH := hfin.2.2
  have HW9 := Lib.hid hW9
  have HLN := Lib.hid hlnr
  have HCR := Lib.hid hcr
  have HONE := Lib.hid honr
  clear hfin hTT hW9 hcr honr hlnr
  go_wp2_with (first
    | (refine wpList_store_mid rfl 26 (.tmp 2) (.tmp 68) rfl w.heap.size 0 cr.toArray rfl (by rw [HCR.out]; rfl) (by simpa [HLN.out] using TH) (by simpa [HLN.out] using info_rp) HONE.out ?_
       rw [← HW9.out])
    | fail)
  exact bodyPost_ret (v := .agg cr.toArray) (results_blk (q := 2) rfl _ _ w.heap.size cr _ rfl FIN.out hu rfl (by rw [HLN.out]; exact info_rp)) rfl HFIN.out
end Go.Proofs.Ytadmaalhhigbeaa

/- Ledger: what the document's Read returns: a case. -/
namespace Go.Proofs.Ytadmaalhhigbeaa
set_option linter.unusedVariables false
set_option linter.unusedSimpArgs false
open Go Go.RowKit OctM BitM

set_option maxRecDepth 100000 in
set_option maxHeartbeats 6400000 in
theorem rlread_err (base g : Nat) (l : List UInt8) (a : Nat) (e : Int) (w : World) (h : Rr w base g (l.drop a) e) (hgl : g < w.heap.size) (ha : a ≤ l.length) (hm : l.length ≤ 4000) (n0 : (numOut l a e 4).2.2 = 0) (n1 : ¬ ((numOut l a e 4).1 : Int) < 2) (z4 : (lg4 l a e).2.2 ≠ 0) :
    Calls Try.prog 17 #[.pointer (some ⟨g, 0, none⟩)] w (RepReadR w base g l (repOut l a e)) := by
  have hu := Try.underlying26
  obtain ⟨T, hT⟩ : ∃ T, T = repOut l a e := ⟨_, rfl⟩
  rw [← hT]
  have HN := Lib.hid (fun wx (hx : Rr wx base g (l.drop a) e) => rr_numd base g l a e 4 wx hx hm)
  obtain ⟨q0, hq0⟩ : ∃ q, q = numOut l a e 4 := ⟨_, rfl⟩
  obtain ⟨q1, hq1⟩ : ∃ q, q = lg1 l a e := ⟨_, rfl⟩
  have f1 : q1.1 = q0.1 := by rw [hq1, hq0]; rfl
  have f2 : q1.2.1 = q0.2.1 := by rw [hq1, hq0]; rfl
  have f3 : q1.2.2 = (if (q0.1 : Int) < 2 then failOut q0.2.2 3 else q0.2.2) := by rw [hq1, hq0]; rfl
  rw [← hq0] at HN n0 n1
  obtain ⟨k1, hk1⟩ : ∃ k : Int, k = (q0.1 : Int) := ⟨_, rfl⟩
  have hk1' : k1 = (q1.1 : Int) := by rw [hk1, f1]
  rw [← hk1] at HN f3 n1
  have f4 : q1.2.2 = q0.2.2 := by rw [f3, if_neg n1]
  have b1 : (q0.2.2 == 0) = true := by simpa using n0
  have b2 : decide (k1 < 2) = false := decide_eq_false n1
  have HF2 := Lib.hid f2
  have HF4 := Lib.hid f4
  obtain ⟨q2, hq2⟩ : ∃ q, q = lg2 l a e := ⟨_, rfl⟩
  have eq2 : q2 = lstOut l q1.2.1 q1.2.2 0 5 := by rw [hq2, hq1]; rfl
  obtain ⟨k2, hk2⟩ : ∃ k : Int, k = (q2.1 : Int) := ⟨_, rfl⟩
  obtain ⟨q3, hq3⟩ : ∃ q, q = lg3 l a e := ⟨_, rfl⟩
  have eq3 : q3 = lstOut l q2.2.1 q2.2.2 1 1099511627776 := by rw [hq3, hq2]; rfl
  obtain ⟨k3, hk3⟩ : ∃ k : Int, k = (q3.1 : Int) := ⟨_, rfl⟩
  obtain ⟨q4, hq4⟩ : ∃ q, q = lg4 l a e := ⟨_, rfl⟩
  have eq4 : q4 = lstOut l q3.2.1 q3.2.2 0 16 := by rw [hq4, hq3]; rfl
  obtain ⟨k4, hk4⟩ : ∃ k : Int, k = (q4.1 : Int) := ⟨_, rfl⟩
  rw [← hq4] at z4
  have hHT0 : T = (zrq, q4.2) := by rw [hT, rep_err (by rw [← hq4]; exact z4), ← hq4]
  have hHT : T = (zrq, q4.2.1, q4.2.2) := hHT0
  have b4 : (q4.2.2 == 0) = false := by simpa using z4
  have b5 : (q4.2.2 != 0) = true := by simpa using z4
  have HT := Lib.hid hHT
  have EQ2 := Lib.hid eq2
  have EQ3 := Lib.hid eq3
  have EQ4 := Lib.hid eq4
  have HK2 := Lib.hid hk2
  have HK3 := Lib.hid hk3
  have HK4 := Lib.hid hk4
  have HK1 := Lib.hid hk1
  clear hHT hHT0 hT hq0 hq1 f1 f2 f3 f4 n0 hk1 hk1' z4 n1 hq2 eq2 hk2 hq3 eq3 hk3 hq4 eq4 hk4
  obtain ⟨W0, hW0⟩ : ∃ W0, W0 = w.alloc (.cells #[.int .i64 0, .int .i64 0, .int .i64 0, .int .i64 0, .int .i64 0, .int .i64 0, .int .i64 0, .int .i64 0, .slice none 0 0, .int .u32 0] 26) := ⟨_, rfl⟩
  have hs0 : RtA w base g l W0 a e := by
    rw [hW0]
    exact ⟨h.row (below_gn (below_a1 _ _)) (fun q e => by cases e), Blk.new w [.int .i64 0, .int .i64 0, .int .i64 0, .int .i64 0, .int .i64 0, .int .i64 0, .int .i64 0, .int .i64 0, .slice none 0 0, .int .u32 0] _, grown_onto (World.grownBy.refl w (some g)) (below_a1 _ _), hgl⟩
  have HS0 := Lib.hid hs0
  have HW0 := Lib.hid hW0
  clear hW0 hs0 h
  go_enter Try.func17, Try.ntmps17
  go_wp2_with fail
  rw [← HW0.out]
  refine (HN.out W0 HS0.out.rr).mono ?_
  rintro x w1 ⟨rfl, hr1, hG1⟩
  have HS1 := Lib.hid (HS0.out.grow hr1 hG1)
  clear hr1 hG1 HS0 HW0 HN
  obtain ⟨W2, hW2⟩ : ∃ W2, W2 = w1.alloc (.cells #[.int .i64 k1, .int .i64 0, .int .i64 0, .int .i64 0, .int .i64 0, .int .i64 0, .int .i64 0, .int .i64 0, .slice none 0 0, .int .u32 0] 26) := ⟨_, rfl⟩
  have hs2 : RtB w base g l w1.heap.size W2 q0.2.1 q0.2.2 [.int .i64 k1, .int .i64 0, .int .i64 0, .int .i64 0, .int .i64 0, .int .i64 0, .int .i64 0, .int .i64 0, .slice none 0 0, .int .u32 0] := by rw [hW2]; exact HS1.out.alloc _
  have HW2 := Lib.hid hW2
  have HS2 := Lib.hid hs2
  have ke := HS1.out.rr.facts.2.1
  have hg1 : g < w1.heap.size := Nat.lt_trans hgl HS1.out.z.lt
  have hlt1 := HS1.out.z.lt
  clear hW2 hs2 HS1
  generalize q0.2.2 = e0 at *
  generalize q0.2.1 = a0 at *
  go_wp2_with fail
  rw [← HW2.out]
  clear HW2 ke hg1 hlt1
  generalize w1.heap.size = b3 at *
  have hs3 := HS2.out
  rw [← HF2.out, ← HF4.out] at hs3
  have HS3 := Lib.hid hs3
  clear hs3 HS2
  refine (HS3.out.num0 hm 5 q2 EQ2.out k2 HK2.out).mono ?_
  rintro x w11 ⟨rfl, hs11, hG11⟩
  have HS11 := Lib.hid hs11
  clear hs11 hG11 HS3
  have ke := HS11.out.A.rr.facts.2.1
  have hn1 := HS11.out.h3
  have hn2 : g ≠ b3 := by omega
  have hn3 : b3 ≠ g := by omega
  have kz0 := HS11.out.c.cell (j := 0) rfl
  have kc1 := HS11.out.c.cell (j := 1) rfl
  have kf1 := HS11.out.c.frozen 1
  have hs12 : RtB w base g l b3 (w11.setCell ⟨b3, 1, none⟩ (.int .i64 k2)) q2.2.1 q2.2.2 [.int .i64 k1, .int .i64 k2, .int .i64 0, .int .i64 0, .int .i64 0, .int .i64 0, .int .i64 0, .int .i64 0, .slice none 0 0, .int .u32 0] := HS11.out.set 1 (.int .i64 k2)
  have HS12 := Lib.hid hs12
  clear hs12
  obtain ⟨W13, hW13⟩ : ∃ W, W = w11.setCell ⟨b3, 1, none⟩ (.int .i64 k2) := ⟨_, rfl⟩
  have hs13 := HS12.out
  rw [← hW13] at hs13
  have HS13 := Lib.hid hs13
  have HW13 := Lib.hid hW13
  clear hs13 hW13
  go_wp2_with fail
  rw [← HW13.out]
  clear HW13 HS11 HS12
  clear ke hn1 hn2 hn3 kz0 kc1 kf1
  refine (HS13.out.num1 hm 1099511627776 q3 EQ3.out k3 HK3.out).mono ?_
  rintro x w14 ⟨rfl, hs14, hG14⟩
  have HS14 := Lib.hid hs14
  clear hs14 hG14 HS13
  have ke := HS14.out.A.rr.facts.2.1
  have hn1 := HS14.out.h3
  have hn2 : g ≠ b3 := by omega
  have hn3 : b3 ≠ g := by omega
  have kz0 := HS14.out.c.cell (j := 0) rfl
  have kc2 := HS14.out.c.cell (j := 2) rfl
  have kf2 := HS14.out.c.frozen 2
  have hs15 : RtB w base g l b3 (w14.setCell ⟨b3, 2, none⟩ (.int .i64 k3)) q3.2.1 q3.2.2 [.int .i64 k1, .int .i64 k2, .int .i64 k3, .int .i64 0, .int .i64 0, .int .i64 0, .int .i64 0, .int .i64 0, .slice none 0 0, .int .u32 0] := HS14.out.set 2 (.int .i64 k3)
  have HS15 := Lib.hid hs15
  clear hs15
  obtain ⟨W16, hW16⟩ : ∃ W, W = w14.setCell ⟨b3, 2, none⟩ (.int .i64 k3) := ⟨_, rfl⟩
  have hs16 := HS15.out
  rw [← hW16] at hs16
  have HS16 := Lib.hid hs16
  have HW16 := Lib.hid hW16
  clear hs16 hW16
  go_wp2_with fail
  rw [← HW16.out]
  clear HW16 HS14 HS15
  clear ke hn1 hn2 hn3 kz0 kc2 kf2
  refine (HS16.out.num0 hm 16 q4 EQ4.out k4 HK4.out).mono ?_
  rintro x w17 ⟨rfl, hs17, hG17⟩
  have HS17 := Lib.hid hs17
  clear hs17 hG17 HS16
  have ke := HS17.out.A.rr.facts.2.1
  have hn1 := HS17.out.h3
  have hn2 : g ≠ b3 := by omega
  have hn3 : b3 ≠ g := by omega
  have kz0 := HS17.out.c.cell (j := 0) rfl
  have kc3 := HS17.out.c.cell (j := 3) rfl
  have kf3 := HS17.out.c.frozen 3
  have hs18 : RtB w base g l b3 (w17.setCell ⟨b3, 3, none⟩ (.int .i64 k4)) q4.2.1 q4.2.2 [.int .i64 k1, .int .i64 k2, .int .i64 k3, .int .i64 k4, .int .i64 0, .int .i64 0, .int .i64 0, .int .i64 0, .slice none 0 0, .int .u32 0] := HS17.out.set 3 (.int .i64 k4)
  have HS18 := Lib.hid hs18
  clear hs18
  generalize q4.2.2 = e4 at *
  generalize q4.2.1 = a4 at *
  have hTT : T = (rab zrp, a4, e4) := by rw [HT.out]; rfl
  have hfin := HS18.out.A.fin zrp T hTT (okRp.zero _) (by simp [zrp]) (fun ad e => by cases e)
  have honr := all_oneCell_toArray (rpc_one zrp)
  have hlnr := rpc_len zrp
  obtain ⟨cr, hcr⟩ : ∃ cr, cr = rpc zrp := ⟨_, rfl⟩
  rw [← hcr] at hfin honr hlnr
  obtain ⟨W9, hW9⟩ : ∃ W9, W9 = (w17.setCell ⟨b3, 3, none⟩ (.int .i64 k4)).setCells w.heap.size 0 cr := ⟨_, rfl⟩
  rw [← hW9] at hfin
  have HFIN := Lib.hid hfin.1
  have FIN := Lib.hid hfin.2.1
  have TH := hfin.2.2
  have HW9 := Lib.hid hW9
  have HLN := Lib.hid hlnr
  have HCR := Lib.hid hcr
  have HONE := Lib.hid honr
  clear hfin hTT hW9 hcr honr hlnr
  go_wp2_with (first
    | (refine wpList_store_mid rfl 26 (.tmp 2) (.tmp 68) rfl w.heap.size 0 cr.toArray rfl (by rw [HCR.out]; rfl) (by simpa [HLN.out] using TH) (by simpa [HLN.out] using info_rp) HONE.out ?_
       rw [← HW9.out])
    | fail)
  exact bodyPost_ret (v := .agg cr.toArray) (results_blk (q := 2) rfl _ _ w.heap.size cr _ rfl FIN.out hu rfl (by rw [HLN.out]; exact info_rp)) rfl HFIN.out
end Go.Proofs.Ytadmaalhhigbeaa
