/- Filters as they are read of bytes: what the document's Read returns. -/
import Derived.Test.YtgpbglmlakildaaG18
import Derived.Test.YtgpbglmlakildaaG3
import Derived.Test.YtgpbglmlakildaaG12
import Derived.Test.YtgpbglmlakildaaG13
import Derived.Test.YtgpbglmlakildaaG17
import Derived.Test.YtgpbglmlakildaaG16
import Derived.Test.YtgpbglmlakildaaG14
namespace Go.Proofs.Ytgpbglmlakildaa
set_option linter.unusedVariables false
set_option linter.unusedSimpArgs false
open Go Go.RowKit OctM

def NodesReadR (w : World) (base g : Nat) (l : List UInt8) (q : List Nd × Nat × Int) : Ending → World → Prop := fun x w' => (∃ A c, x = .returned (.slice A q.1.length c) ∧ w'.ownsRow w.heap.size 29 5 (.slice A q.1.length c) q.1.length (ncs q.1)) ∧ Rr w' base g (l.drop q.2.1) q.2.2 ∧ w.grownBy w' (some g)

set_option maxRecDepth 100000 in
set_option maxHeartbeats 12800000 in
theorem rr_filter (base g : Nat) (l : List UInt8) (a : Nat) (e : Int) (w : World) (h : Rr w base g (l.drop a) e) (ha : a ≤ l.length) (hm : l.length ≤ 2000) :
    Calls Try.prog 37 #[.pointer (some ⟨g, 0, none⟩)] w (NodesReadR w base g l (filtOut l a e)) := by
  obtain ⟨i1, ji, jz0, jz1, jz2⟩ := info_parts info_noded
  have hu := Try.underlying29
  have hgl := h.block.2
  have HNUM := Lib.hid (rr_numd base g l a e 31 w h hm)
  have hny := mny_le l a e
  have hna := mny_at (e := e) ha
  obtain ⟨n, hn0⟩ : ∃ n, n = (mny l a e).1 := ⟨_, rfl⟩
  obtain ⟨a0, ha0⟩ : ∃ x, x = (mny l a e).2.1 := ⟨_, rfl⟩
  obtain ⟨e0, he0⟩ : ∃ x, x = (mny l a e).2.2 := ⟨_, rfl⟩
  obtain ⟨ez, hez⟩ : ∃ ez, ez = (numOut l a e 31).2.2 := ⟨_, rfl⟩
  have e1 : (numOut l a e 31).1 = n := by rw [hn0]; rfl
  have e2 : (numOut l a e 31).2.1 = a0 := by rw [ha0]; rfl
  have HE0 : Hid (e0 = if n = 0 then failOut ez 3 else ez) := Lib.hid (by rw [he0, hez, ← e1]; rfl)
  have HZ : Hid (n = 0 → e0 ≠ 0) := Lib.hid (fun hz => by rw [he0]; exact mny_none (by rw [← hn0]; exact hz))
  have HZ' : Hid (e0 ≠ 0 → n = 0) := Lib.hid (fun hz => by rw [hn0]; exact mny_err (by rw [← he0]; exact hz))
  obtain ⟨Q, hQ⟩ : ∃ Q, Q = filtOut l a e := ⟨_, rfl⟩
  have HQ0 : Hid (e0 ≠ 0 → Q = ([], a0, e0)) := Lib.hid (fun hz => by rw [hQ]; unfold filtOut; rw [if_pos (by rw [← he0]; exact hz), ha0, he0])
  have HQ1 : Hid (e0 = 0 → (nodesOut l n a0).2.2 ≠ 0 → Q = ([], (nodesOut l n a0).2)) := Lib.hid (fun hz h2 => by rw [hQ]; unfold filtOut; rw [if_neg (by rw [← he0]; simpa using hz), ← hn0, ← ha0, if_pos h2])
  have HQ2 : Hid (e0 = 0 → (nodesOut l n a0).2.2 = 0 → lchk (nodesOut l n a0).1 = 0 → Q = nodesOut l n a0) := Lib.hid (fun hz h2 h3 => by rw [hQ]; unfold filtOut; rw [if_neg (by rw [← he0]; simpa using hz), ← hn0, ← ha0, if_neg (by simpa using h2), if_pos h3])
  have HQ3 : Hid (e0 = 0 → (nodesOut l n a0).2.2 = 0 → lchk (nodesOut l n a0).1 ≠ 0 → Q = ([], (nodesOut l n a0).2.1, if lchk (nodesOut l n a0).1 = 1 then 3 else lchk (nodesOut l n a0).1)) := Lib.hid (fun hz h2 h3 => by rw [hQ]; unfold filtOut; rw [if_neg (by rw [← he0]; simpa using hz), ← hn0, ← ha0, if_neg (by simpa using h2), if_neg h3])
  rw [← hQ]
  rw [← hn0] at hny
  rw [← ha0] at hna
  rw [e1, e2, ← hez] at HNUM
  have HF := Lib.hid (fun (wx : World) (hr : Rr wx base g (l.drop a0) ez) => rr_fail base g (l.drop a0) ez 3 wx hr)
  -- what the loop keeps
  obtain ⟨J, hJ⟩ : ∃ J : Nat → List Nd → Nat → Int → Prop, J = fun k ns a' E => (E = 0 ∧ nodesOut l k a0 = (ns, a', 0) ∧ e0 = 0) ∨ (E ≠ 0 ∧ Q = ([], a', E)) := ⟨_, rfl⟩
  have HJ := Lib.hid hJ
  have HGLT := Lib.hid hgl
  clear hQ hn0 ha0 he0 hez e1 e2 h hJ
  unfold NodesReadR
  go_enter Try.func37, Try.ntmps37
  go_wp2_with fail
  refine HNUM.out.mono ?_
  rintro e w1 ⟨rfl, hr1, hg1⟩
  clear HNUM
  have x1 := hr1.facts.2.1
  have HSTART : Hid (∀ wx : World, Rr wx base g (l.drop a0) e0 → w.grownBy wx (some g) → ∃ (k a' : Nat) (ns : List Nd) (E : Int) (AO : Option Addr) (cO : Nat), k ≤ n ∧ (Value.int .i64 0) = .int .i64 k ∧ (Value.slice (some ⟨wx.heap.size, 0, none⟩) 0 0) = .slice AO k cO ∧ Hid (J k ns a' E) ∧ ns.length = k ∧ a' ≤ l.length ∧ (wx.alloc (.cells #[] 29)).ownsRow w.heap.size 29 5 (.slice AO k cO) k (ncs ns) ∧ Rr (wx.alloc (.cells #[] 29)) base g (l.drop a') E ∧ w.grownBy (wx.alloc (.cells #[] 29)) (some g)) := Lib.hid (fun wx hr hg => by
    have hb := (Below.refl wx.heap.size wx).alloc (Nat.le_refl _) (.cells #[] 29)
    refine ⟨0, a0, [], e0, _, _, Nat.zero_le _, rfl, rfl, Lib.hid ?_, rfl, hna, row_lit wx w.heap.size 29 5 0 #[] hg.size (by simp [maxLen]) rfl, hr.later hb, grown_onto hg hb⟩
    rw [HJ.out]
    by_cases hz : e0 = 0
    · exact .inl ⟨hz, rfl, hz⟩
    · exact .inr ⟨hz, HQ0.out hz⟩)
  by_cases h0 : n = 0
  · have HE : Hid (e0 = failOut ez 3) := Lib.hid (by rw [HE0.out, if_pos h0])
    have bn : ((n : Int) == 0) = true := by simp [h0]
    have bnn : (n == 0) = true := by simp [h0]
    by_cases hz : ez = 0
    · subst hz
      clear h0
      go_wp2_with fail
      refine (HF.out _ hr1).mono ?_
      rintro e w2 ⟨rfl, hr2, hg2⟩
      rw [← HE.out] at hr2
      have HR2 := Lib.hid hr2
      have HG2 := Lib.hid (hg1.trans hg2)
      clear hr1 hg1 hg2 hr2 x1
      go_wp2_with fail
      go_loopw [5, 4] (fun i v wr => ∃ (k a' : Nat) (ns : List Nd) (E : Int) (AO : Option Addr) (cO : Nat), k ≤ n ∧ i = .int .i64 k ∧ v = .slice AO k cO ∧ Hid (J k ns a' E) ∧ ns.length = k ∧ a' ≤ l.length ∧ wr.ownsRow w.heap.size 29 5 (.slice AO k cO) k (ncs ns) ∧ Rr wr base g (l.drop a') E ∧ w.grownBy wr (some g)) (fun i _ _ => n - (intOf i).toNat)
      case atStart => exact HSTART.out _ HR2.out HG2.out
      case round =>
        obtain ⟨k, a', ns, E, AO, cO, hk, rfl, rfl, HS, hnsl, ha', hrow, hr, hgr⟩ := hrel
        have HNS : Hid (ns.length = k) := Lib.hid hnsl
        have hwz := hgr.size
        have x1 := hr.facts.2.1
        have hJ := HS.out
        rw [HJ.out] at hJ
        clear hnsl
        rcases hJ with ⟨rfl, hS, hE00⟩ | ⟨hE, hQQ⟩
        · have HS2 := Lib.hid hS
          have HE00 := Lib.hid hE00
          clear hS hE00 HS
          by_cases hlt : k < n
          · have d1 : decide ((k : Int) < (n : Int)) = true := by simp; omega
            have HN := Lib.hid (rr_node base g l a' wr hr ha' hm)
            have hqa : (nodeOut l a').2.1 ≤ l.length := nodeOut_at ha'
            have HSTEP : Hid (nodesOut l (k + 1) a0 = (ns ++ [(nodeOut l a').1], (nodeOut l a').2)) := Lib.hid (by have := nodes_step (l := l) (a := a0) (k := k) (by rw [HS2.out]); rw [HS2.out] at this; exact this)
            have HSTOP : Hid ((nodeOut l a').2.2 ≠ 0 → Q = ([], (nodeOut l a').2)) := Lib.hid (fun hz => by
              have h1 := nodes_stuck (l := l) (a := a0) (k := k + 1) (by rw [HSTEP.out]; exact hz) n (by omega)
              rw [HSTEP.out] at h1
              have h2 := HQ1.out HE00.out (by rw [h1]; exact hz)
              rw [h2, h1])
            obtain ⟨⟨⟨o1, m1, y0, y1, y2⟩, a3, e3⟩, hq3⟩ : ∃ q, q = nodeOut l a' := ⟨_, rfl⟩
            rw [← hq3] at HN HSTEP HSTOP hqa
            simp only at HN HSTEP HSTOP hqa
            have HN1 : Hid (Calls Try.prog 74 #[.pointer (some ⟨g, 0, none⟩)] wr fun x w' => x = .returned (.agg #[.int .i64 o1, .int .i64 m1, .int .i64 y0, .int .i64 y1, .string y2]) ∧ Rr w' base g (l.drop a3) e3 ∧ wr.grownBy w' (some g)) := Lib.hid HN.out
            have HNC : Hid (ncs ns ++ [.int .i64 o1, .int .i64 m1, .int .i64 y0, .int .i64 y1, .string y2] = ncs (ns ++ [(o1, m1, y0, y1, y2)])) := Lib.hid (by rw [ncs_append]; rfl)
            have HNEW : Hid (J (k + 1) (ns ++ [(o1, m1, y0, y1, y2)]) a3 e3) := Lib.hid (by
              rw [HJ.out]
              by_cases hz : e3 = 0
              · exact .inl ⟨hz, by rw [HSTEP.out, hz], HE00.out⟩
              · exact .inr ⟨hz, HSTOP.out hz⟩)
            have HRW := Lib.hid hrow
            have HGR := Lib.hid hgr
            clear hq3 hrow hr hgr
            go_wp2_with fail
            refine HN1.out.mono ?_
            rintro e w3 ⟨rfl, hr3, hg3⟩
            have HR3 := Lib.hid hr3
            have HG3 := Lib.hid (HGR.out.trans hg3)
            have HW3 := Lib.hid (row_other HRW.out hg3 HGLT.out)
            have HR1 := Lib.hid (World.ownsRow.alloc HW3.out (.cells #[.int .i64 o1, .int .i64 m1, .int .i64 y0, .int .i64 y1, .string y2] 29))
            have hw3 := HG3.out.size
            clear hr3 hg3 x1
            go_wp2_with (first
              | (at_builtin
                 refine wpList_appk _ rfl (.tmp 33) (.tmp 36) 22 rfl w.heap.size 29 i1 _ 5 48 Try.underlying22 ji jz0 jz1 jz2 rfl (by decide) (.slice AO k cO) k (ncs ns) rfl HR1.out (w3.heap.size + 1) (some ⟨w3.heap.size, 0, none⟩) 1 [.int .i64 o1, .int .i64 m1, .int .i64 y0, .int .i64 y1, .string y2] 1 rfl rfl (sees_lit w3 #[.int .i64 o1, .int .i64 m1, .int .i64 y0, .int .i64 y1, .string y2] 29 (0, 0) [.int .i64 o1, .int .i64 m1, .int .i64 y0, .int .i64 y1, .string y2] rfl) (by simp [Value.oneCell']) (by unfold maxLen; omega) (by omega) (by simp; omega) ?_
                 intro A5 c5 w5 hr5 hb5 hg5 hat5)
              | fail)
            rw [HNC.out] at hr5
            have hbz3 := (Below.refl w3.heap.size w3).alloc (Nat.le_refl _) (.cells #[.int .i64 o1, .int .i64 m1, .int .i64 y0, .int .i64 y1, .string y2] 29)
            have hR5 := (HR3.out.later hbz3).row hg5 (fun q hq => by have := (HR1.out.lt q hq).1; have := HGLT.out; omega)
            have hG5 := grown_row (grown_onto HG3.out hbz3) hg5 (fun q hq => (HR1.out.lt q hq).1)
            have hl5 : (ns ++ [(o1, m1, y0, y1, y2)]).length = k + 1 := by rw [List.length_append, HNS.out]; rfl
            clear hbz3
            go_roundw
            case rel => exact ⟨k + 1, a3, ns ++ [(o1, m1, y0, y1, y2)], e3, A5, c5, by omega, by go_num, rfl, HNEW, hl5, hqa, hr5, hR5, hG5⟩
            case measure => simp [intOf]; omega
          · obtain rfl : k = n := by omega
            have HLC := lchk_few (l := ns) (by rw [HNS.out]; omega)
            have C0 := Lib.hid (rlcheck_any AO k cO ns wr HNS.out (row_sees hrow) (row_cap hrow))
            have HQA : Hid (lchk ns = 0 → Q = (ns, a', 0)) := Lib.hid (fun hz => by rw [HQ2.out HE00.out (by rw [HS2.out]) (by rw [HS2.out]; exact hz), HS2.out])
            have HQB : Hid (lchk ns ≠ 0 → Q = ([], a', if lchk ns = 1 then 3 else lchk ns)) := Lib.hid (fun hz => by rw [HQ3.out HE00.out (by rw [HS2.out]) (by rw [HS2.out]; exact hz), HS2.out])
            obtain ⟨cc, hcc⟩ : ∃ cc, cc = lchk ns := ⟨_, rfl⟩
            rw [← hcc] at C0 HLC HQA HQB
            have HROW := Lib.hid hrow
            have HRD := Lib.hid hr
            have HGR := Lib.hid hgr
            clear hcc hrow hr hgr
            rcases HLC with rfl | rfl | rfl
            · have HQQ := Lib.hid (HQA.out rfl)
              go_wp2_with fail
              refine C0.out.mono ?_
              rintro e w5 ⟨rfl, hb5⟩
              have HR5 := Lib.hid (HRD.out.later hb5)
              have HG5 := Lib.hid (grown_onto HGR.out hb5)
              have HW5 := Lib.hid (row_later HROW.out hb5)
              clear hb5
              go_wp2_with fail
              go_ret
              rw [HQQ.out]
              refine ⟨⟨AO, cO, ?_, ?_⟩, HR5.out, HG5.out⟩
              · rw [HNS.out]; rfl
              · rw [HNS.out]; exact HW5.out
            · have HQQ : Hid (Q = ([], a', 3)) := Lib.hid (HQB.out (by decide))
              go_wp2_with fail
              refine C0.out.mono ?_
              rintro e w5 ⟨rfl, hb5⟩
              have HR5 := Lib.hid (HRD.out.later hb5)
              have HG5 := Lib.hid (grown_onto HGR.out hb5)
              clear hb5
              go_wp2_with fail
              refine (rr_fail base g (l.drop a') 0 3 _ HR5.out).mono ?_
              rintro e w6 ⟨rfl, hr6, hg6⟩
              rw [failOut_zero] at hr6
              have HR6 := Lib.hid hr6
              have HG6 := Lib.hid (HG5.out.trans hg6)
              clear hr6 hg6 HR5 HG5
              go_wp2_with fail
              go_ret
              rw [HQQ.out]
              exact ⟨⟨none, 0, rfl, World.ownsRow_nil _ _ _ _⟩, HR6.out, HG6.out⟩
            · have HQQ : Hid (Q = ([], a', 5)) := Lib.hid (HQB.out (by decide))
              go_wp2_with fail
              refine C0.out.mono ?_
              rintro e w5 ⟨rfl, hb5⟩
              have HR5 := Lib.hid (HRD.out.later hb5)
              have HG5 := Lib.hid (grown_onto HGR.out hb5)
              clear hb5
              go_wp2_with fail
              refine (rr_fail base g (l.drop a') 0 5 _ HR5.out).mono ?_
              rintro e w6 ⟨rfl, hr6, hg6⟩
              rw [failOut_zero] at hr6
              have HR6 := Lib.hid hr6
              have HG6 := Lib.hid (HG5.out.trans hg6)
              clear hr6 hg6 HR5 HG5
              go_wp2_with fail
              go_ret
              rw [HQQ.out]
              exact ⟨⟨none, 0, rfl, World.ownsRow_nil _ _ _ _⟩, HR6.out, HG6.out⟩
        · have HQQ := Lib.hid hQQ
          have bz : (E == 0) = false := by simp [hE]
          have bz2 : (E != 0) = true := by simp [hE]
          have HRD := Lib.hid hr
          have HGR := Lib.hid hgr
          clear hE hQQ hr hgr hrow
          by_cases hlt : k < n
          · have d1 : decide ((k : Int) < (n : Int)) = true := by simp; omega
            go_wp2_with fail
            go_ret
            rw [HQQ.out]
            exact ⟨⟨none, 0, rfl, World.ownsRow_nil _ _ _ _⟩, HRD.out, HGR.out⟩
          · have d1 : decide ((k : Int) < (n : Int)) = false := by simp; omega
            go_wp2_with fail
            go_ret
            rw [HQQ.out]
            exact ⟨⟨none, 0, rfl, World.ownsRow_nil _ _ _ _⟩, HRD.out, HGR.out⟩
    · have bez : (ez == 0) = false := by simp [hz]
      have HR1' : Hid (Rr w1 base g (l.drop a0) e0) := Lib.hid (by rw [HE.out, failOut_not _ _ hz]; exact hr1)
      have HG1 := Lib.hid hg1
      clear h0 hz hr1 hg1
      go_wp2_with fail
      go_loopw [5, 4] (fun i v wr => ∃ (k a' : Nat) (ns : List Nd) (E : Int) (AO : Option Addr) (cO : Nat), k ≤ n ∧ i = .int .i64 k ∧ v = .slice AO k cO ∧ Hid (J k ns a' E) ∧ ns.length = k ∧ a' ≤ l.length ∧ wr.ownsRow w.heap.size 29 5 (.slice AO k cO) k (ncs ns) ∧ Rr wr base g (l.drop a') E ∧ w.grownBy wr (some g)) (fun i _ _ => n - (intOf i).toNat)
      case atStart => exact HSTART.out _ HR1'.out HG1.out
      case round =>
        obtain ⟨k, a', ns, E, AO, cO, hk, rfl, rfl, HS, hnsl, ha', hrow, hr, hgr⟩ := hrel
        have HNS : Hid (ns.length = k) := Lib.hid hnsl
        have hwz := hgr.size
        have x1 := hr.facts.2.1
        have hJ := HS.out
        rw [HJ.out] at hJ
        clear hnsl
        rcases hJ with ⟨rfl, hS, hE00⟩ | ⟨hE, hQQ⟩
        · have HS2 := Lib.hid hS
          have HE00 := Lib.hid hE00
          clear hS hE00 HS
          by_cases hlt : k < n
          · have d1 : decide ((k : Int) < (n : Int)) = true := by simp; omega
            have HN := Lib.hid (rr_node base g l a' wr hr ha' hm)
            have hqa : (nodeOut l a').2.1 ≤ l.length := nodeOut_at ha'
            have HSTEP : Hid (nodesOut l (k + 1) a0 = (ns ++ [(nodeOut l a').1], (nodeOut l a').2)) := Lib.hid (by have := nodes_step (l := l) (a := a0) (k := k) (by rw [HS2.out]); rw [HS2.out] at this; exact this)
            have HSTOP : Hid ((nodeOut l a').2.2 ≠ 0 → Q = ([], (nodeOut l a').2)) := Lib.hid (fun hz => by
              have h1 := nodes_stuck (l := l) (a := a0) (k := k + 1) (by rw [HSTEP.out]; exact hz) n (by omega)
              rw [HSTEP.out] at h1
              have h2 := HQ1.out HE00.out (by rw [h1]; exact hz)
              rw [h2, h1])
            obtain ⟨⟨⟨o1, m1, y0, y1, y2⟩, a3, e3⟩, hq3⟩ : ∃ q, q = nodeOut l a' := ⟨_, rfl⟩
            rw [← hq3] at HN HSTEP HSTOP hqa
            simp only at HN HSTEP HSTOP hqa
            have HN1 : Hid (Calls Try.prog 74 #[.pointer (some ⟨g, 0, none⟩)] wr fun x w' => x = .returned (.agg #[.int .i64 o1, .int .i64 m1, .int .i64 y0, .int .i64 y1, .string y2]) ∧ Rr w' base g (l.drop a3) e3 ∧ wr.grownBy w' (some g)) := Lib.hid HN.out
            have HNC : Hid (ncs ns ++ [.int .i64 o1, .int .i64 m1, .int .i64 y0, .int .i64 y1, .string y2] = ncs (ns ++ [(o1, m1, y0, y1, y2)])) := Lib.hid (by rw [ncs_append]; rfl)
            have HNEW : Hid (J (k + 1) (ns ++ [(o1, m1, y0, y1, y2)]) a3 e3) := Lib.hid (by
              rw [HJ.out]
              by_cases hz : e3 = 0
              · exact .inl ⟨hz, by rw [HSTEP.out, hz], HE00.out⟩
              · exact .inr ⟨hz, HSTOP.out hz⟩)
            have HRW := Lib.hid hrow
            have HGR := Lib.hid hgr
            clear hq3 hrow hr hgr
            go_wp2_with fail
            refine HN1.out.mono ?_
            rintro e w3 ⟨rfl, hr3, hg3⟩
            have HR3 := Lib.hid hr3
            have HG3 := Lib.hid (HGR.out.trans hg3)
            have HW3 := Lib.hid (row_other HRW.out hg3 HGLT.out)
            have HR1 := Lib.hid (World.ownsRow.alloc HW3.out (.cells #[.int .i64 o1, .int .i64 m1, .int .i64 y0, .int .i64 y1, .string y2] 29))
            have hw3 := HG3.out.size
            clear hr3 hg3 x1
            go_wp2_with (first
              | (at_builtin
                 refine wpList_appk _ rfl (.tmp 33) (.tmp 36) 22 rfl w.heap.size 29 i1 _ 5 48 Try.underlying22 ji jz0 jz1 jz2 rfl (by decide) (.slice AO k cO) k (ncs ns) rfl HR1.out (w3.heap.size + 1) (some ⟨w3.heap.size, 0, none⟩) 1 [.int .i64 o1, .int .i64 m1, .int .i64 y0, .int .i64 y1, .string y2] 1 rfl rfl (sees_lit w3 #[.int .i64 o1, .int .i64 m1, .int .i64 y0, .int .i64 y1, .string y2] 29 (0, 0) [.int .i64 o1, .int .i64 m1, .int .i64 y0, .int .i64 y1, .string y2] rfl) (by simp [Value.oneCell']) (by unfold maxLen; omega) (by omega) (by simp; omega) ?_
                 intro A5 c5 w5 hr5 hb5 hg5 hat5)
              | fail)
            rw [HNC.out] at hr5
            have hbz3 := (Below.refl w3.heap.size w3).alloc (Nat.le_refl _) (.cells #[.int .i64 o1, .int .i64 m1, .int .i64 y0, .int .i64 y1, .string y2] 29)
            have hR5 := (HR3.out.later hbz3).row hg5 (fun q hq => by have := (HR1.out.lt q hq).1; have := HGLT.out; omega)
            have hG5 := grown_row (grown_onto HG3.out hbz3) hg5 (fun q hq => (HR1.out.lt q hq).1)
            have hl5 : (ns ++ [(o1, m1, y0, y1, y2)]).length = k + 1 := by rw [List.length_append, HNS.out]; rfl
            clear hbz3
            go_roundw
            case rel => exact ⟨k + 1, a3, ns ++ [(o1, m1, y0, y1, y2)], e3, A5, c5, by omega, by go_num, rfl, HNEW, hl5, hqa, hr5, hR5, hG5⟩
            case measure => simp [intOf]; omega
          · obtain rfl : k = n := by omega
            have HLC := lchk_few (l := ns) (by rw [HNS.out]; omega)
            have C0 := Lib.hid (rlcheck_any AO k cO ns wr HNS.out (row_sees hrow) (row_cap hrow))
            have HQA : Hid (lchk ns = 0 → Q = (ns, a', 0)) := Lib.hid (fun hz => by rw [HQ2.out HE00.out (by rw [HS2.out]) (by rw [HS2.out]; exact hz), HS2.out])
            have HQB : Hid (lchk ns ≠ 0 → Q = ([], a', if lchk ns = 1 then 3 else lchk ns)) := Lib.hid (fun hz => by rw [HQ3.out HE00.out (by rw [HS2.out]) (by rw [HS2.out]; exact hz), HS2.out])
            obtain ⟨cc, hcc⟩ : ∃ cc, cc = lchk ns := ⟨_, rfl⟩
            rw [← hcc] at C0 HLC HQA HQB
            have HROW := Lib.hid hrow
            have HRD := Lib.hid hr
            have HGR := Lib.hid hgr
            clear hcc hrow hr hgr
            rcases HLC with rfl | rfl | rfl
            · have HQQ := Lib.hid (HQA.out rfl)
              go_wp2_with fail
              refine C0.out.mono ?_
              rintro e w5 ⟨rfl, hb5⟩
              have HR5 := Lib.hid (HRD.out.later hb5)
              have HG5 := Lib.hid (grown_onto HGR.out hb5)
              have HW5 := Lib.hid (row_later HROW.out hb5)
              clear hb5
              go_wp2_with fail
              go_ret
              rw [HQQ.out]
              refine ⟨⟨AO, cO, ?_, ?_⟩, HR5.out, HG5.out⟩
              · rw [HNS.out]; rfl
              · rw [HNS.out]; exact HW5.out
            · have HQQ : Hid (Q = ([], a', 3)) := Lib.hid (HQB.out (by decide))
              go_wp2_with fail
              refine C0.out.mono ?_
              rintro e w5 ⟨rfl, hb5⟩
              have HR5 := Lib.hid (HRD.out.later hb5)
              have HG5 := Lib.hid (grown_onto HGR.out hb5)
              clear hb5
              go_wp2_with fail
              refine (rr_fail base g (l.drop a') 0 3 _ HR5.out).mono ?_
              rintro e w6 ⟨rfl, hr6, hg6⟩
              rw [failOut_zero] at hr6
              have HR6 := Lib.hid hr6
              have HG6 := Lib.hid (HG5.out.trans hg6)
              clear hr6 hg6 HR5 HG5
              go_wp2_with fail
              go_ret
              rw [HQQ.out]
              exact ⟨⟨none, 0, rfl, World.ownsRow_nil _ _ _ _⟩, HR6.out, HG6.out⟩
            · have HQQ : Hid (Q = ([], a', 5)) := Lib.hid (HQB.out (by decide))
              go_wp2_with fail
              refine C0.out.mono ?_
              rintro e w5 ⟨rfl, hb5⟩
              have HR5 := Lib.hid (HRD.out.later hb5)
              have HG5 := Lib.hid (grown_onto HGR.out hb5)
              clear hb5
              go_wp2_with fail
              refine (rr_fail base g (l.drop a') 0 5 _ HR5.out).mono ?_
              rintro e w6 ⟨rfl, hr6, hg6⟩
              rw [failOut_zero] at hr6
              have HR6 := Lib.hid hr6
              have HG6 := Lib.hid (HG5.out.trans hg6)
              clear hr6 hg6 HR5 HG5
              go_wp2_with fail
              go_ret
              rw [HQQ.out]
              exact ⟨⟨none, 0, rfl, World.ownsRow_nil _ _ _ _⟩, HR6.out, HG6.out⟩
        · have HQQ := Lib.hid hQQ
          have bz : (E == 0) = false := by simp [hE]
          have bz2 : (E != 0) = true := by simp [hE]
          have HRD := Lib.hid hr
          have HGR := Lib.hid hgr
          clear hE hQQ hr hgr hrow
          by_cases hlt : k < n
          · have d1 : decide ((k : Int) < (n : Int)) = true := by simp; omega
            go_wp2_with fail
            go_ret
            rw [HQQ.out]
            exact ⟨⟨none, 0, rfl, World.ownsRow_nil _ _ _ _⟩, HRD.out, HGR.out⟩
          · have d1 : decide ((k : Int) < (n : Int)) = false := by simp; omega
            go_wp2_with fail
            go_ret
            rw [HQQ.out]
            exact ⟨⟨none, 0, rfl, World.ownsRow_nil _ _ _ _⟩, HRD.out, HGR.out⟩
  · have HE : Hid (e0 = ez) := Lib.hid (by rw [HE0.out, if_neg h0])
    have hez0 : ez = 0 := by
      by_cases hz : ez = 0
      · exact hz
      · exact absurd (HZ'.out (by rw [HE.out]; exact hz)) h0
    subst hez0
    have bn : ((n : Int) == 0) = false := by simp [h0]
    have bnn : (n == 0) = false := by simp [h0]
    have HR1' : Hid (Rr w1 base g (l.drop a0) e0) := Lib.hid (by rw [HE.out]; exact hr1)
    have HG1 := Lib.hid hg1
    clear h0 hr1 hg1
    go_wp2_with fail
    go_loopw [5, 4] (fun i v wr => ∃ (k a' : Nat) (ns : List Nd) (E : Int) (AO : Option Addr) (cO : Nat), k ≤ n ∧ i = .int .i64 k ∧ v = .slice AO k cO ∧ Hid (J k ns a' E) ∧ ns.length = k ∧ a' ≤ l.length ∧ wr.ownsRow w.heap.size 29 5 (.slice AO k cO) k (ncs ns) ∧ Rr wr base g (l.drop a') E ∧ w.grownBy wr (some g)) (fun i _ _ => n - (intOf i).toNat)
    case atStart => exact HSTART.out _ HR1'.out HG1.out
    case round =>
      obtain ⟨k, a', ns, E, AO, cO, hk, rfl, rfl, HS, hnsl, ha', hrow, hr, hgr⟩ := hrel
      have HNS : Hid (ns.length = k) := Lib.hid hnsl
      have hwz := hgr.size
      have x1 := hr.facts.2.1
      have hJ := HS.out
      rw [HJ.out] at hJ
      clear hnsl
      rcases hJ with ⟨rfl, hS, hE00⟩ | ⟨hE, hQQ⟩
      · have HS2 := Lib.hid hS
        have HE00 := Lib.hid hE00
        clear hS hE00 HS
        by_cases hlt : k < n
        · have d1 : decide ((k : Int) < (n : Int)) = true := by simp; omega
          have HN := Lib.hid (rr_node base g l a' wr hr ha' hm)
          have hqa : (nodeOut l a').2.1 ≤ l.length := nodeOut_at ha'
          have HSTEP : Hid (nodesOut l (k + 1) a0 = (ns ++ [(nodeOut l a').1], (nodeOut l a').2)) := Lib.hid (by have := nodes_step (l := l) (a := a0) (k := k) (by rw [HS2.out]); rw [HS2.out] at this; exact this)
          have HSTOP : Hid ((nodeOut l a').2.2 ≠ 0 → Q = ([], (nodeOut l a').2)) := Lib.hid (fun hz => by
            have h1 := nodes_stuck (l := l) (a := a0) (k := k + 1) (by rw [HSTEP.out]; exact hz) n (by omega)
            rw [HSTEP.out] at h1
            have h2 := HQ1.out HE00.out (by rw [h1]; exact hz)
            rw [h2, h1])
          obtain ⟨⟨⟨o1, m1, y0, y1, y2⟩, a3, e3⟩, hq3⟩ : ∃ q, q = nodeOut l a' := ⟨_, rfl⟩
          rw [← hq3] at HN HSTEP HSTOP hqa
          simp only at HN HSTEP HSTOP hqa
          have HN1 : Hid (Calls Try.prog 74 #[.pointer (some ⟨g, 0, none⟩)] wr fun x w' => x = .returned (.agg #[.int .i64 o1, .int .i64 m1, .int .i64 y0, .int .i64 y1, .string y2]) ∧ Rr w' base g (l.drop a3) e3 ∧ wr.grownBy w' (some g)) := Lib.hid HN.out
          have HNC : Hid (ncs ns ++ [.int .i64 o1, .int .i64 m1, .int .i64 y0, .int .i64 y1, .string y2] = ncs (ns ++ [(o1, m1, y0, y1, y2)])) := Lib.hid (by rw [ncs_append]; rfl)
          have HNEW : Hid (J (k + 1) (ns ++ [(o1, m1, y0, y1, y2)]) a3 e3) := Lib.hid (by
            rw [HJ.out]
            by_cases hz : e3 = 0
            · exact .inl ⟨hz, by rw [HSTEP.out, hz], HE00.out⟩
            · exact .inr ⟨hz, HSTOP.out hz⟩)
          have HRW := Lib.hid hrow
          have HGR := Lib.hid hgr
          clear hq3 hrow hr hgr
          go_wp2_with fail
          refine HN1.out.mono ?_
          rintro e w3 ⟨rfl, hr3, hg3⟩
          have HR3 := Lib.hid hr3
          have HG3 := Lib.hid (HGR.out.trans hg3)
          have HW3 := Lib.hid (row_other HRW.out hg3 HGLT.out)
          have HR1 := Lib.hid (World.ownsRow.alloc HW3.out (.cells #[.int .i64 o1, .int .i64 m1, .int .i64 y0, .int .i64 y1, .string y2] 29))
          have hw3 := HG3.out.size
          clear hr3 hg3 x1
          go_wp2_with (first
            | (at_builtin
               refine wpList_appk _ rfl (.tmp 33) (.tmp 36) 22 rfl w.heap.size 29 i1 _ 5 48 Try.underlying22 ji jz0 jz1 jz2 rfl (by decide) (.slice AO k cO) k (ncs ns) rfl HR1.out (w3.heap.size + 1) (some ⟨w3.heap.size, 0, none⟩) 1 [.int .i64 o1, .int .i64 m1, .int .i64 y0, .int .i64 y1, .string y2] 1 rfl rfl (sees_lit w3 #[.int .i64 o1, .int .i64 m1, .int .i64 y0, .int .i64 y1, .string y2] 29 (0, 0) [.int .i64 o1, .int .i64 m1, .int .i64 y0, .int .i64 y1, .string y2] rfl) (by simp [Value.oneCell']) (by unfold maxLen; omega) (by omega) (by simp; omega) ?_
               intro A5 c5 w5 hr5 hb5 hg5 hat5)
            | fail)
          rw [HNC.out] at hr5
          have hbz3 := (Below.refl w3.heap.size w3).alloc (Nat.le_refl _) (.cells #[.int .i64 o1, .int .i64 m1, .int .i64 y0, .int .i64 y1, .string y2] 29)
          have hR5 := (HR3.out.later hbz3).row hg5 (fun q hq => by have := (HR1.out.lt q hq).1; have := HGLT.out; omega)
          have hG5 := grown_row (grown_onto HG3.out hbz3) hg5 (fun q hq => (HR1.out.lt q hq).1)
          have hl5 : (ns ++ [(o1, m1, y0, y1, y2)]).length = k + 1 := by rw [List.length_append, HNS.out]; rfl
          clear hbz3
          go_roundw
          case rel => exact ⟨k + 1, a3, ns ++ [(o1, m1, y0, y1, y2)], e3, A5, c5, by omega, by go_num, rfl, HNEW, hl5, hqa, hr5, hR5, hG5⟩
          case measure => simp [intOf]; omega
        · obtain rfl : k = n := by omega
          have HLC := lchk_few (l := ns) (by rw [HNS.out]; omega)
          have C0 := Lib.hid (rlcheck_any AO k cO ns wr HNS.out (row_sees hrow) (row_cap hrow))
          have HQA : Hid (lchk ns = 0 → Q = (ns, a', 0)) := Lib.hid (fun hz => by rw [HQ2.out HE00.out (by rw [HS2.out]) (by rw [HS2.out]; exact hz), HS2.out])
          have HQB : Hid (lchk ns ≠ 0 → Q = ([], a', if lchk ns = 1 then 3 else lchk ns)) := Lib.hid (fun hz => by rw [HQ3.out HE00.out (by rw [HS2.out]) (by rw [HS2.out]; exact hz), HS2.out])
          obtain ⟨cc, hcc⟩ : ∃ cc, cc = lchk ns := ⟨_, rfl⟩
          rw [← hcc] at C0 HLC HQA HQB
          have HROW := Lib.hid hrow
          have HRD := Lib.hid hr
          have HGR := Lib.hid hgr
          clear hcc hrow hr hgr
          rcases HLC with rfl | rfl | rfl
          · have HQQ := Lib.hid (HQA.out rfl)
            go_wp2_with fail
            refine C0.out.mono ?_
            rintro e w5 ⟨rfl, hb5⟩
            have HR5 := Lib.hid (HRD.out.later hb5)
            have HG5 := Lib.hid (grown_onto HGR.out hb5)
            have HW5 := Lib.hid (row_later HROW.out hb5)
            clear hb5
            go_wp2_with fail
            go_ret
            rw [HQQ.out]
            refine ⟨⟨AO, cO, ?_, ?_⟩, HR5.out, HG5.out⟩
            · rw [HNS.out]; rfl
            · rw [HNS.out]; exact HW5.out
          · have HQQ : Hid (Q = ([], a', 3)) := Lib.hid (HQB.out (by decide))
            go_wp2_with fail
            refine C0.out.mono ?_
            rintro e w5 ⟨rfl, hb5⟩
            have HR5 := Lib.hid (HRD.out.later hb5)
            have HG5 := Lib.hid (grown_onto HGR.out hb5)
            clear hb5
            go_wp2_with fail
            refine (rr_fail base g (l.drop a') 0 3 _ HR5.out).mono ?_
            rintro e w6 ⟨rfl, hr6, hg6⟩
            rw [failOut_zero] at hr6
            have HR6 := Lib.hid hr6
            have HG6 := Lib.hid (HG5.out.trans hg6)
            clear hr6 hg6 HR5 HG5
            go_wp2_with fail
            go_ret
            rw [HQQ.out]
            exact ⟨⟨none, 0, rfl, World.ownsRow_nil _ _ _ _⟩, HR6.out, HG6.out⟩
          · have HQQ : Hid (Q = ([], a', 5)) := Lib.hid (HQB.out (by decide))
            go_wp2_with fail
            refine C0.out.mono ?_
            rintro e w5 ⟨rfl, hb5⟩
            have HR5 := Lib.hid (HRD.out.later hb5)
            have HG5 := Lib.hid (grown_onto HGR.out hb5)
            clear hb5
            go_wp2_with fail
            refine (rr_fail base g (l.drop a') 0 5 _ HR5.out).mono ?_
            rintro e w6 ⟨rfl, hr6, hg6⟩
            rw [failOut_zero] at hr6
            have HR6 := Lib.hid hr6
            have HG6 := Lib.hid (HG5.out.trans hg6)
            clear hr6 hg6 HR5 HG5
            go_wp2_with fail
            go_ret
            rw [HQQ.out]
            exact ⟨⟨none, 0, rfl, World.ownsRow_nil _ _ _ _⟩, HR6.out, HG6.out⟩
      · have HQQ := Lib.hid hQQ
        have bz : (E == 0) = false := by simp [hE]
        have bz2 : (E != 0) = true := by simp [hE]
        have HRD := Lib.hid hr
        have HGR := Lib.hid hgr
        clear hE hQQ hr hgr hrow
        by_cases hlt : k < n
        · have d1 : decide ((k : Int) < (n : Int)) = true := by simp; omega
          go_wp2_with fail
          go_ret
          rw [HQQ.out]
          exact ⟨⟨none, 0, rfl, World.ownsRow_nil _ _ _ _⟩, HRD.out, HGR.out⟩
        · have d1 : decide ((k : Int) < (n : Int)) = false := by simp; omega
          go_wp2_with fail
          go_ret
          rw [HQQ.out]
          exact ⟨⟨none, 0, rfl, World.ownsRow_nil _ _ _ _⟩, HRD.out, HGR.out⟩
end Go.Proofs.Ytgpbglmlakildaa

/- A region that draws its order, whose first operations turn memory, and whose others wait for them: the first by all their orders, the others walked once. -/
namespace Go.Proofs.Ytgpbglmlakildaa
set_option linter.unusedVariables false
open Go Go.RowKit

/-- The values of the first operations, put. -/
def putsAll : List Oper → List Value → Act → Act
  | o :: l, v :: vs, a => putsAll l vs (a.put o.dst v)
  | _, _, a => a
section
variable {P : Program} {ops : Array Oper} {md : Region.Mode} {Q : Exit → Act → World → Prop}
theorem wpAny_step {fuel : Nat} {listed : Array Bool} {a : Act} {w : World} (r : List Nat) (hr : Region.ready md ops listed = r) (hne : r.isEmpty = false)
    (h : ∀ i ∈ r, wpOp P ops Q i (wpAny P md ops Q fuel (listed.setIfInBounds i true)) a w) : wpAny P md ops Q (fuel + 1) listed a w := by
  subst hr
  exact ⟨fun h0 => absurd hne (by rw [h0]; simp), h⟩
theorem wpOp_move {i : Nat} {a : Act} {w : World} {K : Act → World → Prop} (o : Oper) (ho : ops[i]? = some o) (x : Operand) (hx : o.op = .move x) (hw : Region.wanted o (yielded ops a.tmps) = true) (h : K (a.put o.dst (a.eval x)) w) : wpOp P ops Q i K a w := by
  unfold wpOp
  simp only [ho, hw, if_true]
  left
  unfold Oper.wp execOp
  simp only [hx, Sem.run_pure, Oper.upon]
  exact h
theorem wpOp_call {i : Nat} {a : Act} {w : World} {K : Act → World → Prop} (o : Oper) (ho : ops[i]? = some o) (f : FuncId) (args : Array Value) (hx : (execOp a.eval o).run P w = .ok (.enter f args) w) (hw : Region.wanted o (yielded ops a.tmps) = true)
    (h : Calls P f args w fun e w' => ∃ v, e = .returned v ∧ K (a.put o.dst v) w') : wpOp P ops Q i K a w := by
  unfold wpOp
  simp only [ho, hw, if_true]
  left
  unfold Oper.wp
  rw [hx]
  simp only [Oper.upon]
  exact h.mono fun e w' ⟨v, he, hk⟩ => by subst he; exact hk
end
theorem wpAny_rest {P : Program} {Q : Exit → Act → World → Prop} {l : List Oper} {a : Act} {w : World} (k n : Nat) (listed : Array Bool) (hs : Region.noSelect l.toArray = true) (hf : fedB l [] n = true)
    (hB : Region.lexFrom .any l.toArray (l.drop k).length k listed = true) (hn : a.tmps.size = n)
    (h : wpG P l.toArray (openOf []) w (fun a' w' => Q .normal a' w') (l.drop k) a (fun _ => True)) : wpAny P .any l.toArray Q (l.drop k).length listed a w := by
  obtain ⟨hF, hd⟩ := fedB_fed (g := []) (n := n) hf
  have hI : Inv l.toArray (openOf []) w listed a w := ⟨Le.refl w, fun k o d R _ _ _ hG => by simp [openOf] at hG⟩
  refine wpAny_of_G (Qn := fun a' w' => Q .normal a' w') (w0 := w) hF (fun _ _ h => h) _ _ _ _ hI ?_
  exact wpAnyG_lex hF hs n hd (l.drop k) k listed a (fun _ => True) (fun j => by rw [List.getElem?_toArray, List.getElem?_drop]) hB hn ⟨w, hI⟩ (fun _ _ => trivial) h
/-- The first k operations in all their orders (head); the others once (tail). -/
theorem wp_region_head {P : Program} {id : Nat} {Q : Exit → Act → World → Prop} {a : Act} {w : World} {l : List Oper} (k n : Nat) (listed : Array Bool) (vs : List Value) (S : World → Prop) (hm : P.follows .mixedOrders = true)
    (hs : Region.noSelect l.toArray = true) (hf : fedB l [] n = true) (hB : Region.lexFrom .any l.toArray (l.drop k).length k listed = true) (hn : (putsAll l vs a).tmps.size = n)
    (head : (∀ w', S w' → wpAny P .any l.toArray Q (l.drop k).length listed (putsAll l vs a) w') → wpAny P .any l.toArray Q l.length (Array.replicate l.length false) a { w with drawn := w.drawn + 1 })
    (tail : ∀ w', S w' → wpG P l.toArray (openOf []) w' (fun a' w' => Q .normal a' w') (l.drop k) (putsAll l vs a) (fun _ => True)) : (Code.region id l.toArray true).wp P Q a w := by
  refine wp_region_any hm ?_
  simpa using head fun w' hS => wpAny_rest k n listed hs hf hB hn (tail w' hS)
end Go.Proofs.Ytgpbglmlakildaa

/- PredwireReads: the walk. -/
namespace Go.Proofs.Ytgpbglmlakildaa
set_option linter.unusedVariables false
set_option linter.unusedSimpArgs false
open Go Go.RowKit OctM

/-- The first k operations in all their orders (head); the others once (tail); what the first ones give is known up to t. -/
theorem wp_region_headx {T : Type} {P : Program} {id : Nat} {Q : Exit → Act → World → Prop} {a : Act} {w : World} {l : List Oper} (k n : Nat) (listed : Array Bool) (vs : T → List Value) (S : T → World → Prop) (hm : P.follows .mixedOrders = true)
    (hs : Region.noSelect l.toArray = true) (hf : fedB l [] n = true) (hB : Region.lexFrom .any l.toArray (l.drop k).length k listed = true) (hn : ∀ t, (putsAll l (vs t) a).tmps.size = n)
    (head : (∀ t w', S t w' → wpAny P .any l.toArray Q (l.drop k).length listed (putsAll l (vs t) a) w') → wpAny P .any l.toArray Q l.length (Array.replicate l.length false) a { w with drawn := w.drawn + 1 })
    (tail : ∀ t w', S t w' → wpG P l.toArray (openOf []) w' (fun a' w' => Q .normal a' w') (l.drop k) (putsAll l (vs t) a) (fun _ => True)) : (Code.region id l.toArray true).wp P Q a w := by
  refine wp_region_any hm ?_
  simpa using head fun t w' hS => wpAny_rest k n listed hs hf hB (hn t) (tail t w' hS)

set_option maxRecDepth 100000 in
set_option maxHeartbeats 3200000 in
theorem nil_filter (w : World) : Calls Try.prog 36 #[.pointer none] w fun x w' => x = .returned (.slice none 0 0) ∧ Below w.heap.size w w' := by
  have HC := Lib.hid (fun wx : World => lcheck_any none 0 0 [] wx rfl Sees.nil_)
  rw [show lchk [] = 1 from by decide +kernel] at HC
  go_enter Try.func36, Try.ntmps36
  go_wp2_with fail
  all_goals (try go_step3)
  go_wp2_with fail
  refine (nil_num _ _).mono ?_
  rintro e w1 ⟨rfl, rfl⟩
  go_wp2_with fail
  refine (nil_fail _ _).mono ?_
  rintro e w1 ⟨rfl, rfl⟩
  go_wp2_with fail
  all_goals (try go_step3)
  go_wp2_with fail
  go_loopw [14, 4] (fun i v wr => i = .int .i64 0 ∧ v = .slice none 0 0 ∧ wr = w) (fun _ _ _ => 0)
  case atStart => exact ⟨rfl, rfl, rfl⟩
  case round =>
    obtain ⟨rfl, rfl, rfl⟩ := hrel
    go_wp2_with fail
    refine (HC.out _).mono ?_
    rintro e w3 ⟨rfl, hb3⟩
    go_wp2_with fail
    refine (nil_fail _ _).mono ?_
    rintro e w1 ⟨rfl, rfl⟩
    go_wp2_with fail
    refine (nil_err _).mono ?_
    rintro e w1 ⟨rfl, rfl⟩
    go_wp2_with fail
    try rw [Exit.noGoto_ret]
    go_ret
    exact ⟨rfl, hb3⟩

theorem filt_len (l : List UInt8) (a : Nat) (e : Int) : (filtOut l a e).1.length ≤ 31 := by
  have h1 := nodes_len (l := l) (a := (mny l a e).2.1) (mny l a e).1
  have h2 := mny_le l a e
  unfold filtOut
  split
  · simp
  · split
    · simp
    · split
      · omega
      · simp
/-- What lies there behind both reads. -/
def Both2 (w : World) (gr gm : Nat) (l : List UInt8) (a : Nat) (e : Int) (ns : List Nd) (m : Nat) (t : Option Addr × Nat × Option Addr × Nat) (w' : World) : Prop :=
  Two w w' gr gm l a e (l.drop a) e ∧ Sees w' w'.heap.size t.1 (ncs ns) ∧ Sees w' w'.heap.size t.2.2.1 (ncs ns)

set_option maxRecDepth 100000 in
set_option maxHeartbeats 6400000 in
theorem walk_pwreads (A : Option Addr) (n c : Nat) (l : List UInt8) (w : World) (hn : l.length = n) (hs : Sees w w.heap.size A (bvs l)) :
    Calls Try.prog 7 #[.slice A n c] w fun e w' => e = .returned (.bool true) ∧ Below w.heap.size w w' := by
  have HAW := Lib.hid (fun (wx : World) => pw_awake wx)
  by_cases h5 : n ≤ 1000
  · have d3 : decide ((1000 : Int) < (n : Int)) = false := by simp; omega
    have HN := Lib.hid (rd_new A n c l w hn hs (by omega))
    have HNL := Lib.hid hn
    go_enter Try.func7, Try.ntmps7
    go_wp2_with fail
    refine HN.out.mono ?_
    rintro e w1 ⟨gr, rfl, r1, b1⟩
    obtain ⟨sl, hsl⟩ : ∃ sl, sl = str l := ⟨_, rfl⟩
    have hc1 := str_conv w1 w1.heap.size A n c l sl HNL.out ((hs.below b1).more b1.size) hsl
    have hgr := r1.block
    have HSL := Lib.hid hsl
    clear hn hsl
    go_wp2_with fail
    have T0 : Same2 w (w1.alloc (.cells #[.string sl, .int .i64 0] 52)) gr w1.heap.size l 0 0 := by
      refine ⟨⟨r1.later ((Below.refl _ _).alloc (Nat.le_refl _) _), ?_, hgr.2, b1.alloc b1.size _⟩, Nat.zero_le _, by rw [HNL.out]; omega⟩
      have h := own_lit w1 w.heap.size 52 #[.string sl, .int .i64 0] b1.size (by simp [maxLen])
      rw [HSL.out] at h ⊢
      exact h
    generalize hgm : w1.heap.size = gm at T0 ⊢
    clear hc1 r1 b1 hgr hgm HSL HN
    go_loopw [5] (fun i wr => ∃ (k a : Nat) (e : Int), k ≤ 3 ∧ i = .int .i64 k ∧ Same2 w wr gr gm l a e) (fun i _ => 3 - (intOf i).toNat)
    case atStart => exact ⟨0, 0, 0, by omega, rfl, T0⟩
    case round =>
      obtain ⟨k, a, e, hk, rfl, T, ha, hm⟩ := hrel
      have HT := Lib.hid T
      clear T0
      by_cases hlt : k < 3
      · have q2 : (k : Int) < 3 := by omega
        have ha2 := filt_at (e := e) ha
        have H1 := Lib.hid (fun wx (T : Two w wx gr gm l a e (l.drop a) e) => (rd_filter _ gr l a e wx T.1 ha hm).mono fun x w' h => (show ∃ A1 c1, x = .returned (.slice A1 (filtOut l a e).1.length c1) ∧ w'.ownsRow wx.heap.size 29 5 (.slice A1 (filtOut l a e).1.length c1) (filtOut l a e).1.length (ncs (filtOut l a e).1) ∧ Two w w' gr gm l (filtOut l a e).2.1 (filtOut l a e).2.2 (l.drop a) e ∧ gm < wx.heap.size from by
          obtain ⟨⟨A1, c1, h1, h2⟩, h3, h4⟩ := h
          exact ⟨A1, c1, h1, h2, T.first h3 h4, T.2.1.block.2⟩))
        have H2 := Lib.hid (fun wx (T : Two w wx gr gm l (filtOut l a e).2.1 (filtOut l a e).2.2 (l.drop a) e) (A1 : Option Addr) (c1 : Nat) (p : ∃ B, gm < B ∧ wx.ownsRow B 29 5 (.slice A1 (filtOut l a e).1.length c1) (filtOut l a e).1.length (ncs (filtOut l a e).1)) => (rr_filter _ gm l a e wx T.2.1 ha hm).mono fun x w' h => (show ∃ A2 c2, x = .returned (.slice A2 (filtOut l a e).1.length c2) ∧ Sees w' w'.heap.size A2 (ncs (filtOut l a e).1) ∧ Two w w' gr gm l (filtOut l a e).2.1 (filtOut l a e).2.2 (l.drop (filtOut l a e).2.1) (filtOut l a e).2.2 ∧ Sees w' w'.heap.size A1 (ncs (filtOut l a e).1) from by
          obtain ⟨⟨A2, c2, h1, h2⟩, h3, h4⟩ := h
          obtain ⟨B, hB, p⟩ := p
          exact ⟨A2, c2, h1, row_sees h2, T.second h3 h4, row_sees (row_other p h4 hB)⟩))
        have HSM := Lib.hid (fun wx (A1 : Option Addr) (c1 : Nat) (A2 : Option Addr) (c2 : Nat) (s1 : Sees wx wx.heap.size A1 (ncs (filtOut l a e).1)) (s2 : Sees wx wx.heap.size A2 (ncs (filtOut l a e).1)) => rsame_any A1 (filtOut l a e).1.length c1 (filtOut l a e).1 A2 (filtOut l a e).1.length c2 (filtOut l a e).1 wx rfl rfl s1 s2 (by have := filt_len l a e; omega))
        simp only [decide_true] at HSM
        obtain ⟨⟨ns, a2, e2⟩, hq⟩ : ∃ q, q = filtOut l a e := ⟨_, rfl⟩
        rw [← hq] at H1 H2 HSM ha2
        simp only at H1 H2 HSM ha2
        obtain ⟨m, hm0⟩ : ∃ m, m = ns.length := ⟨_, rfl⟩
        rw [← hm0] at H1 H2 HSM
        clear hq T d3 hs hm0
        go_wp2_with fail
        refine wp_region_headx 4 51 #[true, true, true, true, false, false, false, false, false, false, false, false, false, false, false, false, false, false, false, false, false, false, false, false, false] (fun t : Option Addr × Nat × Option Addr × Nat => [.pointer (some ⟨gr, 0, none⟩), .slice t.1 m t.2.1, .pointer (some ⟨gm, 0, none⟩), .slice t.2.2.1 m t.2.2.2]) (Both2 w gr gm l a2 e2 ns m) (by kernel_rfl) (by kernel_rfl) (by kernel_rfl) (by kernel_rfl) (fun _ => by rfl) ?_ ?_
        · intro TAIL
          have T0 := HT.out.later ((Below.refl _ _).drew)
          refine wpAny_step (fuel := 24) [0, 2] (by kernel_rfl) rfl (fun i hi => ?_)
          simp only [List.mem_cons, List.not_mem_nil, or_false] at hi
          rcases hi with rfl | rfl
          · refine wpOp_move _ rfl (.tmp 3) rfl (by rfl) ?_
            simp only [Act.put, List.setIfInBounds_toArray, List.set_cons_zero, List.set_cons_succ]
            refine wpAny_step (fuel := 23) [1, 2] (by kernel_rfl) rfl (fun i hi => ?_)
            simp only [List.mem_cons, List.not_mem_nil, or_false] at hi
            rcases hi with rfl | rfl
            · refine wpOp_call _ rfl 36 #[.pointer (some ⟨gr, 0, none⟩)] (by simp [go_sem]) (by rfl) ((H1.out _ T0).mono ?_)
              rintro e' w1 ⟨A1, c1, rfl, o1, T1, hgm1⟩
              refine ⟨_, rfl, ?_⟩
              simp only [Act.put, List.setIfInBounds_toArray, List.set_cons_zero, List.set_cons_succ]
              refine wpAny_step (fuel := 22) [2] (by kernel_rfl) rfl (fun i hi => ?_)
              simp only [List.mem_cons, List.not_mem_nil, or_false] at hi
              subst hi
              refine wpOp_move _ rfl (.tmp 4) rfl (by rfl) ?_
              simp only [Act.put, List.setIfInBounds_toArray, List.set_cons_zero, List.set_cons_succ]
              refine wpAny_step (fuel := 21) [3] (by kernel_rfl) rfl (fun i hi => ?_)
              simp only [List.mem_cons, List.not_mem_nil, or_false] at hi
              subst hi
              refine wpOp_call _ rfl 37 #[.pointer (some ⟨gm, 0, none⟩)] (by simp [go_sem]) (by rfl) ((H2.out _ T1 _ _ ⟨_, hgm1, o1⟩).mono ?_)
              rintro e' w2 ⟨A2, c2, rfl, o2, T2, p1⟩
              refine ⟨_, rfl, ?_⟩
              simp only [Act.put, List.setIfInBounds_toArray, List.set_cons_zero, List.set_cons_succ]
              exact TAIL (A1, c1, A2, c2) _ ⟨T2, p1, o2⟩
            · refine wpOp_move _ rfl (.tmp 4) rfl (by rfl) ?_
              simp only [Act.put, List.setIfInBounds_toArray, List.set_cons_zero, List.set_cons_succ]
              refine wpAny_step (fuel := 22) [1] (by kernel_rfl) rfl (fun i hi => ?_)
              simp only [List.mem_cons, List.not_mem_nil, or_false] at hi
              subst hi
              refine wpOp_call _ rfl 36 #[.pointer (some ⟨gr, 0, none⟩)] (by simp [go_sem]) (by rfl) ((H1.out _ T0).mono ?_)
              rintro e' w1 ⟨A1, c1, rfl, o1, T1, hgm1⟩
              refine ⟨_, rfl, ?_⟩
              simp only [Act.put, List.setIfInBounds_toArray, List.set_cons_zero, List.set_cons_succ]
              refine wpAny_step (fuel := 21) [3] (by kernel_rfl) rfl (fun i hi => ?_)
              simp only [List.mem_cons, List.not_mem_nil, or_false] at hi
              subst hi
              refine wpOp_call _ rfl 37 #[.pointer (some ⟨gm, 0, none⟩)] (by simp [go_sem]) (by rfl) ((H2.out _ T1 _ _ ⟨_, hgm1, o1⟩).mono ?_)
              rintro e' w2 ⟨A2, c2, rfl, o2, T2, p1⟩
              refine ⟨_, rfl, ?_⟩
              simp only [Act.put, List.setIfInBounds_toArray, List.set_cons_zero, List.set_cons_succ]
              exact TAIL (A1, c1, A2, c2) _ ⟨T2, p1, o2⟩
          · refine wpOp_move _ rfl (.tmp 4) rfl (by rfl) ?_
            simp only [Act.put, List.setIfInBounds_toArray, List.set_cons_zero, List.set_cons_succ]
            refine wpAny_step (fuel := 23) [0] (by kernel_rfl) rfl (fun i hi => ?_)
            simp only [List.mem_cons, List.not_mem_nil, or_false] at hi
            subst hi
            refine wpOp_move _ rfl (.tmp 3) rfl (by rfl) ?_
            simp only [Act.put, List.setIfInBounds_toArray, List.set_cons_zero, List.set_cons_succ]
            refine wpAny_step (fuel := 22) [1] (by kernel_rfl) rfl (fun i hi => ?_)
            simp only [List.mem_cons, List.not_mem_nil, or_false] at hi
            subst hi
            refine wpOp_call _ rfl 36 #[.pointer (some ⟨gr, 0, none⟩)] (by simp [go_sem]) (by rfl) ((H1.out _ T0).mono ?_)
            rintro e' w1 ⟨A1, c1, rfl, o1, T1, hgm1⟩
            refine ⟨_, rfl, ?_⟩
            simp only [Act.put, List.setIfInBounds_toArray, List.set_cons_zero, List.set_cons_succ]
            refine wpAny_step (fuel := 21) [3] (by kernel_rfl) rfl (fun i hi => ?_)
            simp only [List.mem_cons, List.not_mem_nil, or_false] at hi
            subst hi
            refine wpOp_call _ rfl 37 #[.pointer (some ⟨gm, 0, none⟩)] (by simp [go_sem]) (by rfl) ((H2.out _ T1 _ _ ⟨_, hgm1, o1⟩).mono ?_)
            rintro e' w2 ⟨A2, c2, rfl, o2, T2, p1⟩
            refine ⟨_, rfl, ?_⟩
            simp only [Act.put, List.setIfInBounds_toArray, List.set_cons_zero, List.set_cons_succ]
            exact TAIL (A1, c1, A2, c2) _ ⟨T2, p1, o2⟩
        · rintro ⟨A1, c1, A2, c2⟩ w5 ⟨T5, s1, s2⟩
          simp only at s1 s2
          obtain ⟨rest, hrest⟩ : ∃ r, r = l.length - a2 := ⟨_, rfl⟩
          obtain ⟨sr, hsr⟩ : ∃ sr, sr = str (l.drop a2) := ⟨_, rfl⟩
          have zr : sr.size = rest := by rw [hsr, str_size, List.length_drop, hrest]
          have hr2 : rest ≤ 2000 := by omega
          have HSS := Lib.hid (fun wx (hl : Le w5 wx) => HSM.out wx A1 c1 A2 c2 ((s1.below hl).more hl.size) ((s2.below hl).more hl.size))
          have HLE := Lib.hid (fun wx (T : Two w wx gr gm l a2 e2 (l.drop a2) e2) => two_left T ha2 hm rest hrest)
          have HER := Lib.hid (fun wx (T : Two w wx gr gm l a2 e2 (l.drop a2) e2) => two_err T)
          have hm0 : ∀ k : LW w5, k.val.cell? ⟨gm, 0, none⟩ = some (.string sr) := fun k => by rw [hsr]; exact (two_cells (T5.later k.le)).1
          have hm1 : ∀ k : LW w5, k.val.cell? ⟨gm, 1, none⟩ = some (.int .i64 e2) := fun k => (two_cells (T5.later k.le)).2
          clear hrest hsr s1 s2
          simp only [putsAll, List.drop_succ_cons, List.drop_zero]
          simp only [Act.put, List.setIfInBounds_toArray, List.set_cons_zero, List.set_cons_succ]
          refine wpG_call (by rfl) (by rfl) 26 #[.slice A1 m c1, .slice A2 m c2] (.bool true) (by intro _; simp [go_sem]) (by kernel_rfl) (fun w1 hl => HSS.out w1 hl.1) ?_
          simp only [Act.put, List.setIfInBounds_toArray, List.set_cons_zero, List.set_cons_succ]
          iterate 3 (refine wpG_quiet (by rfl) (by rfl) (by rfl) (fun K hK => ?_); go_big_quiet_op; refine hK _ ?_; clear hK K)
          refine wpG_call (by rfl) (by rfl) 38 #[.pointer (some ⟨gr, 0, none⟩)] (.int .i64 e2) (by intro _; simp [go_sem]) (by kernel_rfl) (fun w1 hl => HER.out w1 (T5.later hl.1)) ?_
          simp only [Act.put, List.setIfInBounds_toArray, List.set_cons_zero, List.set_cons_succ]
          iterate 8 (refine wpG_quiet (by rfl) (by rfl) (by rfl) (fun K hK => ?_); go_big_quiet_op; refine hK _ ?_; clear hK K)
          refine wpG_call (by rfl) (by rfl) 39 #[.pointer (some ⟨gr, 0, none⟩)] (.int .i64 rest) (by intro _; simp [go_sem]) (by kernel_rfl) (fun w1 hl => HLE.out w1 (T5.later hl.1)) ?_
          simp only [Act.put, List.setIfInBounds_toArray, List.set_cons_zero, List.set_cons_succ]
          iterate 7 (refine wpG_quiet (by rfl) (by rfl) (by rfl) (fun K hK => ?_); go_big_quiet_op; refine hK _ ?_; clear hK K)
          refine wpG_nil (fun w6 hl6 _ => ?_)
          have T6 := T5.later hl6
          go_wp2_with fail
          go_roundw
          case rel => exact ⟨k + 1, a2, e2, by omega, by go_num, T6, ha2, hm⟩
          case measure => simp [intOf]; omega
      · obtain rfl : k = 3 := by omega
        clear d3 hs
        go_wp2_with fail
        refine (nil_filter _).mono ?_
        rintro e' w2 ⟨rfl, b2⟩
        have T2 := HT.out.later b2
        clear T HT b2
        go_wp2_with fail
        refine (HAW.out _).mono ?_
        rintro e' w3 ⟨rfl, b3⟩
        have T3 := T2.later b3
        go_wp2_with fail
        go_ret
        exact ⟨rfl, T3.2.2.2⟩
  · have d3 : decide ((1000 : Int) < (n : Int)) = true := by simp; omega
    clear hs hn
    go_enter Try.func7, Try.ntmps7
    go_wp2_with fail
    refine (HAW.out _).mono ?_
    rintro e' w3 ⟨rfl, b3⟩
    go_wp2_with fail
    go_ret
    exact ⟨rfl, b3⟩
end Go.Proofs.Ytgpbglmlakildaa

/- Filters as bytes: what was put is read, and what is read was put: mathematics. -/
namespace Go.Proofs.Ytgpbglmlakildaa
set_option linter.unusedVariables false
set_option linter.unusedSimpArgs false
open Go Go.RowKit OctM

/-- What a node that may be is. -/
theorem nok_parts {n : Nd} (h : nok n = true) : 1 ≤ n.1 ∧ n.1 ≤ 12 ∧ (hasN n.1 = true → 0 ≤ n.2.1 ∧ n.2.1 ≤ npm n.1) ∧ (hasN n.1 = false → n.2.1 = 0) ∧ (hasV n.1 = true → vchk n.2.2 = true) ∧ (hasV n.1 = false → n.2.2 = zv) := by
  obtain ⟨op, m, v⟩ := n
  unfold nok at h
  simp only at h ⊢
  have dN : ∀ b, hasN op = b → decide (3 ≤ op ∧ op ≤ 9) = b := fun b h => h
  have dV : ∀ b, hasV op = b → decide (6 ≤ op ∧ op ≤ 9) = b := fun b h => h
  by_cases c1 : op = 1 ∨ op = 2 ∨ op = 10 ∨ op = 11 ∨ op = 12
  · rw [if_pos c1] at h
    have h := of_decide_eq_true h
    refine ⟨by omega, by omega, fun hh => ?_, fun _ => h.1, fun hh => ?_, fun _ => h.2⟩
    · have := of_decide_eq_true (dN _ hh); omega
    · have := of_decide_eq_true (dV _ hh); omega
  · rw [if_neg c1] at h
    by_cases c2 : op = 3 ∨ op = 4
    · rw [if_pos c2] at h
      have h := of_decide_eq_true h
      refine ⟨by omega, by omega, fun _ => ⟨h.1, by unfold npm; rw [if_pos c2]; omega⟩, fun hh => ?_, fun hh => ?_, fun _ => h.2.2⟩
      · have := of_decide_eq_false (dN _ hh); omega
      · have := of_decide_eq_true (dV _ hh); omega
    · rw [if_neg c2] at h
      have p7 : hasN op = true → npm op = 7 := fun hh => by unfold npm; rw [if_neg c2, if_pos hh]
      by_cases c3 : op = 5
      · rw [if_pos c3] at h
        have h := of_decide_eq_true h
        refine ⟨by omega, by omega, fun hh => ⟨h.1, by rw [p7 hh]; omega⟩, fun hh => ?_, fun hh => ?_, fun _ => h.2.2⟩
        · have := of_decide_eq_false (dN _ hh); omega
        · have := of_decide_eq_true (dV _ hh); omega
      · rw [if_neg c3] at h
        by_cases c4 : op = 6 ∨ op = 7 ∨ op = 8
        · rw [if_pos c4] at h
          have h := of_decide_eq_true h
          refine ⟨by omega, by omega, fun hh => ⟨h.1, by rw [p7 hh]; omega⟩, fun hh => ?_, fun _ => h.2.2.1, fun hh => ?_⟩
          · have := of_decide_eq_false (dN _ hh); omega
          · have := of_decide_eq_false (dV _ hh); omega
        · rw [if_neg c4] at h
          by_cases c5 : op = 9
          · rw [if_pos c5] at h
            have h := of_decide_eq_true h
            refine ⟨by omega, by omega, fun hh => ⟨h.1, by rw [p7 hh]; omega⟩, fun hh => ?_, fun _ => h.2.2.1, fun hh => ?_⟩
            · have := of_decide_eq_false (dN _ hh); omega
            · have := of_decide_eq_false (dV _ hh); omega
          · rw [if_neg c5] at h; cases h
theorem npm_small (op : Int) : npm op ≤ 15 := by
  unfold npm
  split
  · omega
  · split <;> omega
theorem nbs_ok {n : Nd} (h : nok n = true) : (nbs n).length ≤ 42 := by
  obtain ⟨h1, h2, h3, h4, h5, h6⟩ := nok_parts h
  have hs := npm_small n.1
  have o1 : (enc (held n.1)).length = 1 := by
    have := held_self (n := n.1) (by omega) (by omega)
    rw [enc_low (by omega)]; rfl
  have o2 : (if hasN n.1 = true then enc (held n.2.1) else []).length ≤ 1 := by
    split
    · rename_i hN
      obtain ⟨g1, g2⟩ := h3 hN
      have := held_self (n := n.2.1) g1 (by omega)
      rw [enc_low (by omega)]; exact Nat.le_refl _
    · simp
  have o3 := vbs_len n.2.2
  have o4 : (if hasV n.1 = true then vbs n.2.2 else []).length ≤ 40 := by split <;> simp_all
  unfold nbs
  simp only [List.length_append]
  omega
theorem lbs_small (l : List Nd) : (lbs l).length ≤ 1308 := by
  unfold lbs
  split
  · rename_i h
    obtain ⟨h1, h2, _, _⟩ := lchk_ok h
    have h3 := held_len (l.length : Int)
    have h4 : ∀ q : List Nd, (∀ n ∈ q, nok n = true) → (q.flatMap nbs).length ≤ 42 * q.length := by
      intro q
      induction q with
      | nil => simp
      | cons n q ih =>
        intro hq
        have := nbs_ok (hq n (by simp))
        have := ih (fun m hm => hq m (List.mem_cons_of_mem _ hm))
        simp only [List.flatMap_cons, List.length_append, List.length_cons]
        omega
    have h5 := h4 l h2
    rw [List.length_append]
    omega
  · simp
theorem nodeOut_put (pre rest : List UInt8) (n : Nd) (h : nok n = true) : nodeOut (pre ++ (nbs n ++ rest)) pre.length = (n, pre.length + (nbs n).length, 0) := by
  obtain ⟨h1, h2, h3, h4, h5, h6⟩ := nok_parts h
  obtain ⟨op, m, v⟩ := n
  simp only at h1 h2 h3 h4 h5 h6
  obtain ⟨bn, hbn⟩ : ∃ z, z = (if hasN op = true then enc (held m) else []) := ⟨_, rfl⟩
  obtain ⟨bv, hbv⟩ : ∃ z, z = (if hasV op = true then vbs v else []) := ⟨_, rfl⟩
  have hb : nbs (op, m, v) = enc (held op) ++ (bn ++ bv) := by unfold nbs; rw [hbn, hbv]
  have ho : ((held op : Nat) : Int) = op := held_self (by omega) (by omega)
  obtain ⟨l, hl⟩ : ∃ l, l = pre ++ (nbs (op, m, v) ++ rest) := ⟨_, rfl⟩
  have hl1 : l = pre ++ (enc (held op) ++ (bn ++ (bv ++ rest))) := by rw [hl, hb]; simp only [List.append_assoc]
  have n1 := num_put pre (bn ++ (bv ++ rest)) (held op) 12 (held_le op) (by rw [ho]; exact h2)
  rw [← hl1] at n1
  have kA : ndA l pre.length = held op := by unfold ndA; rw [n1]
  have kA2 : naA l pre.length = pre.length + (enc (held op)).length := by unfold naA; rw [n1]
  have kE : neA l pre.length = 0 := by unfold neA; rw [kA, if_neg (by omega), n1]
  have kB : nB l pre.length = (held m, pre.length + (enc (held op)).length + bn.length, 0) := by
    unfold nB
    rw [kA, ho, kA2, kE]
    by_cases hN : hasN op = true
    · rw [if_pos hN]
      rw [if_pos hN] at hbn
      obtain ⟨g1, g2⟩ := h3 hN
      have g3 := npm_small op
      have n2 := num_put (pre ++ enc (held op)) (bv ++ rest) (held m) (npm op) (held_le m) (by rw [held_self g1 (by omega)]; exact g2)
      rw [← hbn] at n2
      simp only [List.append_assoc, List.length_append] at n2
      rw [← hl1] at n2
      exact n2
    · rw [if_neg hN]
      rw [if_neg hN] at hbn
      rw [hbn, h4 (by simpa using hN)]
      rfl
  have kV : nV l pre.length = (v, pre.length + (enc (held op)).length + bn.length + bv.length, 0) := by
    unfold nV
    rw [kA, ho, kB]
    by_cases hV : hasV op = true
    · rw [if_pos hV]
      rw [if_pos hV] at hbv
      have n3 := valOut_put (pre ++ enc (held op) ++ bn) rest v (h5 hV)
      rw [← hbv] at n3
      simp only [List.append_assoc, List.length_append] at n3
      rw [← hl1] at n3
      simp only [← Nat.add_assoc] at n3
      exact n3
    · rw [if_neg hV]
      rw [if_neg hV] at hbv
      rw [hbv, h6 (by simpa using hV)]
      rfl
  have hm : ((held m : Nat) : Int) = m := by
    by_cases hN : hasN op = true
    · have := h3 hN
      have g3 := npm_small op
      exact held_self (by omega) (by omega)
    · rw [h4 (by simpa using hN)]; rfl
  have kD : ndOf l pre.length = (op, m, v) := by unfold ndOf; rw [kA, kB, kV, ho]; simp only; rw [hm]
  rw [← hl]
  unfold nodeOut
  rw [kD, if_pos h, kV, hb]
  simp only [List.length_append, Nat.add_assoc]
theorem nodes_put (pre rest : List UInt8) (ns : List Nd) (h : ∀ n ∈ ns, nok n = true) : ∀ k, k ≤ ns.length → nodesOut (pre ++ (ns.flatMap nbs ++ rest)) k pre.length = (ns.take k, pre.length + ((ns.take k).flatMap nbs).length, 0)
  | 0, _ => by simp [nodesOut]
  | k + 1, hk => by
    have hkl : k < ns.length := by omega
    have ih := nodes_put pre rest ns h k (by omega)
    rw [nodes_step (by rw [ih]), ih]
    simp only
    have e1 : ns.flatMap nbs = (ns.take k).flatMap nbs ++ (nbs ns[k] ++ (ns.drop (k + 1)).flatMap nbs) := by
      have : ns = ns.take k ++ (ns[k] :: ns.drop (k + 1)) := by rw [← List.drop_eq_getElem_cons hkl, List.take_append_drop]
      conv => lhs; rw [this]
      rw [List.flatMap_append, List.flatMap_cons]
    have e2 : pre ++ (ns.flatMap nbs ++ rest) = (pre ++ (ns.take k).flatMap nbs) ++ (nbs ns[k] ++ ((ns.drop (k + 1)).flatMap nbs ++ rest)) := by rw [e1]; simp only [List.append_assoc]
    have n1 := nodeOut_put (pre ++ (ns.take k).flatMap nbs) ((ns.drop (k + 1)).flatMap nbs ++ rest) ns[k] (h _ (List.getElem_mem hkl))
    rw [← e2, List.length_append] at n1
    rw [n1, nbs_take ns k hkl, List.take_succ_eq_append_getElem hkl, List.length_append]
    simp only [Nat.add_assoc]
theorem filt_put (pre rest : List UInt8) (ns : List Nd) (h : lchk ns = 0) : filtOut (pre ++ (lbs ns ++ rest)) pre.length 0 = (ns, pre.length + (lbs ns).length, 0) := by
  obtain ⟨h1, h2, h3, h4⟩ := lchk_ok h
  have hb : lbs ns = enc (held (ns.length : Int)) ++ ns.flatMap nbs := by unfold lbs; rw [if_pos h]
  have hpos : 0 < ns.length := by
    cases ns with
    | nil => cases h3
    | cons _ _ => simp
  have hh : held (ns.length : Int) = ns.length := by
    have := held_self (n := (ns.length : Int)) (by omega) (by omega)
    omega
  obtain ⟨l, hl⟩ : ∃ l, l = pre ++ (lbs ns ++ rest) := ⟨_, rfl⟩
  have hl1 : l = pre ++ (enc ns.length ++ (ns.flatMap nbs ++ rest)) := by rw [hl, hb, hh]; simp only [List.append_assoc]
  have n1 := num_put pre (ns.flatMap nbs ++ rest) ns.length 31 (by omega) (by omega)
  rw [← hl1] at n1
  have m1 : mny l pre.length 0 = (ns.length, pre.length + (enc ns.length).length, 0) := by
    unfold mny
    rw [n1]
    simp only
    rw [if_neg (by omega)]
  have hl2 : l = (pre ++ enc ns.length) ++ (ns.flatMap nbs ++ rest) := by rw [hl1]; simp only [List.append_assoc]
  have n2 := nodes_put (pre ++ enc ns.length) rest ns h2 ns.length (Nat.le_refl _)
  rw [← hl2, List.take_length, List.length_append] at n2
  rw [← hl]
  unfold filtOut
  rw [m1]
  simp only
  rw [if_neg (by simp), n2]
  simp only
  rw [if_neg (by simp), if_pos h, hb, hh, List.length_append, Nat.add_assoc]

theorem num_only' {l : List UInt8} {a : Nat} {m : Int} (h : (numOut l a 0 m).2.2 = 0) : (numOut l a 0 m).2.1 = a + (enc (numOut l a 0 m).1).length ∧ l.drop a = enc (numOut l a 0 m).1 ++ l.drop (numOut l a 0 m).2.1 := by
  obtain ⟨_, h1, h2, _⟩ := num_only h
  exact ⟨h1, h2⟩
/-- A node that is read without an error has just the bytes that were taken. -/
theorem node_only {l : List UInt8} {a : Nat} (h : (nodeOut l a).2.2 = 0) : nok (nodeOut l a).1 = true ∧ (nodeOut l a).2.1 = a + (nbs (nodeOut l a).1).length ∧ l.drop a = nbs (nodeOut l a).1 ++ l.drop (nodeOut l a).2.1 := by
  have hk : nok (ndOf l a) = true := by
    cases hk : nok (ndOf l a) with
    | true => rfl
    | false =>
      have e : (nodeOut l a).2.2 = failOut (nV l a).2.2 3 := by unfold nodeOut; simp only; rw [if_neg (by rw [hk]; simp)]
      rw [e] at h
      unfold failOut at h
      split at h
      · cases h
      · rename_i h2; exact absurd h h2
  have e : (nodeOut l a).2.2 = (nV l a).2.2 := by unfold nodeOut; simp only; rw [if_pos hk]
  rw [e] at h
  have eB : (nB l a).2.2 = 0 := by
    by_cases hz : (nB l a).2.2 = 0
    · exact hz
    · have hv : (nV l a).2 = (nB l a).2 := by
        unfold nV
        split
        · rw [valOut_err _ _ _ hz]
        · rfl
      rw [hv] at h
      exact absurd h hz
  have eA : neA l a = 0 := by
    by_cases hz : neA l a = 0
    · exact hz
    · have hb : nB l a = (0, naA l a, neA l a) := by unfold nB; rw [neA_op hz]; rw [if_neg (by show ¬ hasN 0 = true; rw [hasN_zero]; simp)]
      rw [hb] at eB
      exact absurd eB hz
  have hop : ndA l a ≠ 0 := fun hz => neA_no hz eA
  have e0 : (numOut l a 0 12).2.2 = 0 := by unfold neA at eA; rwa [if_neg hop] at eA
  obtain ⟨a1, a2⟩ := num_only' e0
  have hop12 := ndA_le l a
  have ho : held (ndA l a : Int) = ndA l a := by
    have := held_self (n := (ndA l a : Int)) (by omega) (by omega)
    omega
  -- the number
  have hN : (nB l a).2.1 = naA l a + (if hasN (ndA l a : Int) = true then enc (held ((nB l a).1 : Int)) else []).length ∧ l.drop (naA l a) = (if hasN (ndA l a : Int) = true then enc (held ((nB l a).1 : Int)) else []) ++ l.drop (nB l a).2.1 := by
    by_cases hN : hasN (ndA l a : Int) = true
    · have hb : nB l a = numOut l (naA l a) 0 (npm (ndA l a : Int)) := by unfold nB; rw [if_pos hN, eA]
      have eB' := eB
      rw [hb] at eB'
      obtain ⟨b1, b2⟩ := num_only' eB'
      have hle := numOut_le l (naA l a) 0 (npm (ndA l a : Int)) (npm_ge _)
      have hs := npm_small (ndA l a : Int)
      rw [← hb] at b1 b2 hle
      have hh : held ((nB l a).1 : Int) = (nB l a).1 := by
        have := held_self (n := ((nB l a).1 : Int)) (by omega) (by omega)
        omega
      rw [if_pos hN, hh]
      exact ⟨b1, b2⟩
    · have hb : nB l a = (0, naA l a, neA l a) := by unfold nB; rw [if_neg hN]
      rw [if_neg hN, hb]
      exact ⟨by simp, by simp⟩
  have hV : (nV l a).2.1 = (nB l a).2.1 + (if hasV (ndA l a : Int) = true then vbs (nV l a).1 else []).length ∧ l.drop (nB l a).2.1 = (if hasV (ndA l a : Int) = true then vbs (nV l a).1 else []) ++ l.drop (nV l a).2.1 := by
    by_cases hV : hasV (ndA l a : Int) = true
    · have hv : nV l a = valOut l (nB l a).2.1 (nB l a).2.2 := by unfold nV; rw [if_pos hV]
      have h' := h
      rw [hv] at h'
      obtain ⟨_, _, b1, b2⟩ := val_only h'
      rw [← hv] at b1 b2
      rw [if_pos hV]
      exact ⟨b1, b2⟩
    · have hv : nV l a = (zv, (nB l a).2.1, (nB l a).2.2) := by unfold nV; rw [if_neg hV]
      rw [if_neg hV, hv]
      exact ⟨by simp, by simp⟩
  have hbs : nbs (ndOf l a) = enc (ndA l a) ++ ((if hasN (ndA l a : Int) = true then enc (held ((nB l a).1 : Int)) else []) ++ (if hasV (ndA l a : Int) = true then vbs (nV l a).1 else [])) := by
    unfold nbs ndOf
    simp only
    rw [ho]
  have f1 : (nodeOut l a).1 = ndOf l a := rfl
  have f2 : (nodeOut l a).2.1 = (nV l a).2.1 := rfl
  rw [f1, f2]
  refine ⟨hk, ?_, ?_⟩
  · rw [hV.1, hN.1, show naA l a = a + (enc (ndA l a)).length from a1, hbs]
    simp only [List.length_append]
    omega
  · rw [show l.drop a = enc (ndA l a) ++ l.drop (naA l a) from a2, hN.2, hV.2, hbs]
    simp only [List.append_assoc]
theorem nodes_only {l : List UInt8} {a : Nat} : ∀ k, (nodesOut l k a).2.2 = 0 → (nodesOut l k a).2.1 = a + ((nodesOut l k a).1.flatMap nbs).length ∧ l.drop a = (nodesOut l k a).1.flatMap nbs ++ l.drop (nodesOut l k a).2.1
  | 0, _ => ⟨by simp [nodesOut], by simp [nodesOut]⟩
  | k + 1, h => by
    have h0 : (nodesOut l k a).2.2 = 0 := by
      by_cases hz : (nodesOut l k a).2.2 = 0
      · exact hz
      · rw [nodes_stuck hz (k + 1) (by omega)] at h; exact absurd h hz
    obtain ⟨i1, i2⟩ := nodes_only k h0
    rw [nodes_step h0] at h ⊢
    simp only at h ⊢
    obtain ⟨_, n1, n2⟩ := node_only h
    rw [List.flatMap_append]
    refine ⟨?_, ?_⟩
    · rw [n1, i1]; simp; omega
    · conv => lhs; rw [i2, n2]
      simp
theorem filt_only {l : List UInt8} {a : Nat} {e : Int} (h : (filtOut l a e).2.2 = 0) : e = 0 ∧ lchk (filtOut l a e).1 = 0 ∧ (filtOut l a e).2.1 = a + (lbs (filtOut l a e).1).length ∧ l.drop a = lbs (filtOut l a e).1 ++ l.drop (filtOut l a e).2.1 := by
  have h1 : (mny l a e).2.2 = 0 := by
    by_cases hz : (mny l a e).2.2 = 0
    · exact hz
    · unfold filtOut at h; rw [if_pos hz] at h; exact absurd h hz
  have h2 : (nodesOut l (mny l a e).1 (mny l a e).2.1).2.2 = 0 := by
    by_cases hz : (nodesOut l (mny l a e).1 (mny l a e).2.1).2.2 = 0
    · exact hz
    · unfold filtOut at h; rw [if_neg (by rw [h1]; simp), if_pos hz] at h; exact absurd h hz
  have h3 : lchk (nodesOut l (mny l a e).1 (mny l a e).2.1).1 = 0 := by
    by_cases hz : lchk (nodesOut l (mny l a e).1 (mny l a e).2.1).1 = 0
    · exact hz
    · unfold filtOut at h
      rw [if_neg (by rw [h1]; simp), if_neg (by rw [h2]; simp), if_neg hz] at h
      simp only at h
      split at h
      · cases h
      · exact absurd h hz
  have hq : filtOut l a e = nodesOut l (mny l a e).1 (mny l a e).2.1 := by unfold filtOut; rw [if_neg (by rw [h1]; simp), if_neg (by rw [h2]; simp), if_pos h3]
  have hlen := nodes_full (l := l) (a := (mny l a e).2.1) _ h2
  obtain ⟨i1, i2⟩ := nodes_only _ h2
  have hm0 : (numOut l a e 31).1 ≠ 0 := fun hz => mny_none (show (mny l a e).1 = 0 from hz) h1
  have hme : (numOut l a e 31).2.2 = 0 := by
    have : (mny l a e).2.2 = (numOut l a e 31).2.2 := by unfold mny; simp only; rw [if_neg hm0]
    rw [← this]; exact h1
  obtain ⟨he, g1, g2, _, _⟩ := num_only hme
  have hm31 := mny_le l a e
  have hh : held (((nodesOut l (mny l a e).1 (mny l a e).2.1).1.length : Nat) : Int) = (mny l a e).1 := by
    have := held_self (n := (((nodesOut l (mny l a e).1 (mny l a e).2.1).1.length : Nat) : Int)) (by omega) (by omega)
    omega
  have hbs : lbs (filtOut l a e).1 = enc (mny l a e).1 ++ (nodesOut l (mny l a e).1 (mny l a e).2.1).1.flatMap nbs := by
    unfold lbs
    rw [hq, if_pos h3, hh]
  refine ⟨he, by rw [hq]; exact h3, ?_, ?_⟩
  · rw [hbs, hq, i1, show (mny l a e).2.1 = a + (enc (mny l a e).1).length from g1, List.length_append]; omega
  · rw [hbs, hq, List.append_assoc, ← i2]
    exact g2
end Go.Proofs.Ytgpbglmlakildaa

/- Cards as they are read of bytes: the program's: the walk. -/
namespace Go.Proofs.Ytgpbglmlakildaa
set_option linter.unusedVariables false
open Go Go.RowKit OctM BitM

theorem fld_nat {x : BitVec 32} {k : Nat} {L : List Int} (hL : L = flds x) (hk : k < L.length) : ∃ j : Nat, L[k] = (j : Int) ∧ j < 8 := by
  obtain ⟨h0, h8, _⟩ := (mem_flds x L[k]).1 (by rw [← hL]; exact List.getElem_mem hk)
  obtain ⟨j, hj⟩ := Int.eq_ofNat_of_zero_le h0
  exact ⟨j, hj, by omega⟩

end Go.Proofs.Ytgpbglmlakildaa
