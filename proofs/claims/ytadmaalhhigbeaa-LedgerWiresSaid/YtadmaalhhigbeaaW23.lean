/- Ledger: what the program's Read returns, case by case. -/
import Derived.Test.YtadmaalhhigbeaaW19
import Derived.Test.YtadmaalhhigbeaaW22
import Derived.Test.YtadmaalhhigbeaaW16
import Derived.Test.YtadmaalhhigbeaaW15
namespace Go.Proofs.Ytadmaalhhigbeaa
set_option linter.unusedVariables false
set_option linter.unusedSimpArgs false
open Go Go.RowKit OctM BitM

set_option maxRecDepth 100000 in
set_option maxHeartbeats 6400000 in
theorem lread_4 (base g : Nat) (l : List UInt8) (a : Nat) (e : Int) (w : World) (h : Rd w base g l a e) (ha : a ≤ l.length) (hm : l.length ≤ 4000) (hc : (lg4 l a e).1 = 0) (h2 : ¬ (lg1 l a e).1 = 2) (h3 : ¬ (lg1 l a e).1 = 3) :
    Calls Try.prog 16 #[.pointer (some ⟨g, 0, none⟩)] w (RepRead w base g l (repOut l a e)) := by
  have hu := Try.underlying26
  obtain ⟨T, hT⟩ : ∃ T, T = repOut l a e := ⟨_, rfl⟩
  rw [← hT]
  obtain ⟨q1, hq1⟩ : ∃ q, q = lg1 l a e := ⟨_, rfl⟩
  have eq1 : q1 = lstOut l a e 2 4 := by rw [hq1]; rfl
  obtain ⟨k1, hk1⟩ : ∃ k : Int, k = (q1.1 : Int) := ⟨_, rfl⟩
  have at1 : q1.2.1 ≤ l.length := by rw [hq1]; exact lg1_at ha
  obtain ⟨q2, hq2⟩ : ∃ q, q = lg2 l a e := ⟨_, rfl⟩
  have eq2 : q2 = lstOut l q1.2.1 q1.2.2 0 5 := by rw [hq2, hq1]; rfl
  obtain ⟨k2, hk2⟩ : ∃ k : Int, k = (q2.1 : Int) := ⟨_, rfl⟩
  have at2 : q2.2.1 ≤ l.length := by rw [hq2]; exact lg2_at ha
  obtain ⟨q3, hq3⟩ : ∃ q, q = lg3 l a e := ⟨_, rfl⟩
  have eq3 : q3 = lstOut l q2.2.1 q2.2.2 1 1099511627776 := by rw [hq3, hq2]; rfl
  obtain ⟨k3, hk3⟩ : ∃ k : Int, k = (q3.1 : Int) := ⟨_, rfl⟩
  have at3 : q3.2.1 ≤ l.length := by rw [hq3]; exact lg3_at ha
  obtain ⟨q4, hq4⟩ : ∃ q, q = lg4 l a e := ⟨_, rfl⟩
  have eq4 : q4 = lstOut l q3.2.1 q3.2.2 0 16 := by rw [hq4, hq3]; rfl
  obtain ⟨k4, hk4⟩ : ∃ k : Int, k = (q4.1 : Int) := ⟨_, rfl⟩
  have at4 : q4.2.1 ≤ l.length := by rw [hq4]; exact lg4_at ha
  obtain ⟨q5, hq5⟩ : ∃ q, q = lg5 l a e := ⟨_, rfl⟩
  have eq5 : q5 = lstOut l q4.2.1 q4.2.2 0 1099511627776 := by rw [hq5, hq4]; rfl
  obtain ⟨k5, hk5⟩ : ∃ k : Int, k = (q5.1 : Int) := ⟨_, rfl⟩
  have at5 : q5.2.1 ≤ l.length := by rw [hq5]; exact lg5_at ha
  obtain ⟨q6, hq6⟩ : ∃ q, q = lg6 l a e := ⟨_, rfl⟩
  have eq6 : q6 = lstOut l q5.2.1 q5.2.2 1 1073741823 := by rw [hq6, hq5]; rfl
  obtain ⟨k6, hk6⟩ : ∃ k : Int, k = (q6.1 : Int) := ⟨_, rfl⟩
  have at6 : q6.2.1 ≤ l.length := by rw [hq6]; exact lg6_at ha
  obtain ⟨q7, hq7⟩ : ∃ q, q = lg7 l a e := ⟨_, rfl⟩
  have eq7 : q7 = lstOut l q6.2.1 q6.2.2 1 1099511627776 := by rw [hq7, hq6]; rfl
  obtain ⟨k7, hk7⟩ : ∃ k : Int, k = (q7.1 : Int) := ⟨_, rfl⟩
  have at7 : q7.2.1 ≤ l.length := by rw [hq7]; exact lg7_at ha
  obtain ⟨q8, hq8⟩ : ∃ q, q = lg8 l a e := ⟨_, rfl⟩
  have eq8 : q8 = lstOut l q5.2.1 q5.2.2 1 1099511627776 := by rw [hq8, hq5]; rfl
  obtain ⟨k8, hk8⟩ : ∃ k : Int, k = (q8.1 : Int) := ⟨_, rfl⟩
  have at8 : q8.2.1 ≤ l.length := by rw [hq8]; exact lg8_at ha
  obtain ⟨q9, hq9⟩ : ∃ q, q = lg9 l a e := ⟨_, rfl⟩
  have eq9 : q9 = filtOut l q8.2.1 q8.2.2 := by rw [hq9, hq8]; rfl
  have at9 : q9.2.1 ≤ l.length := by rw [hq9]; exact lg9_at ha
  obtain ⟨q10, hq10⟩ : ∃ q, q = lg10 l a e := ⟨_, rfl⟩
  have eq10 : q10 = lstOut l q9.2.1 q9.2.2 0 511 := by rw [hq10, hq9]; rfl
  obtain ⟨k10, hk10⟩ : ∃ k : Int, k = (q10.1 : Int) := ⟨_, rfl⟩
  have at10 : q10.2.1 ≤ l.length := by rw [hq10]; exact lg10_at ha
  have HE : ∀ {p : Nat × Nat × Int}, p = lg4 l a e → True := fun _ => trivial
  obtain ⟨W0, hW0⟩ : ∃ W0, W0 = (w.alloc (.cells #[.pointer (some ⟨g, 0, none⟩)] 34)).alloc (.cells #[.int .i64 0, .int .i64 0, .int .i64 0, .int .i64 0, .int .i64 0, .int .i64 0, .int .i64 0, .int .i64 0, .slice none 0 0, .int .u32 0] 26) := ⟨_, rfl⟩
  have hs0 : RsA w base g l W0 a e := by
    have hb := below_a2 w (.cells #[.pointer (some ⟨g, 0, none⟩)] 34) (.cells #[.int .i64 0, .int .i64 0, .int .i64 0, .int .i64 0, .int .i64 0, .int .i64 0, .int .i64 0, .int .i64 0, .slice none 0 0, .int .u32 0] 26)
    have hz := Blk.new (w.alloc (.cells #[.pointer (some ⟨g, 0, none⟩)] 34)) [.int .i64 0, .int .i64 0, .int .i64 0, .int .i64 0, .int .i64 0, .int .i64 0, .int .i64 0, .int .i64 0, .slice none 0 0, .int .u32 0] 26
    rw [show (w.alloc (.cells #[.pointer (some ⟨g, 0, none⟩)] 34)).heap.size = w.heap.size + 1 by simp] at hz
    rw [hW0]
    exact ⟨h.later hb, (Blk.new w [.pointer (some ⟨g, 0, none⟩)] _).alloc _, hz, grown_onto (World.grownBy.refl w (some g)) hb, h.block.2⟩
  have HS0 := Lib.hid hs0
  have HW0 := Lib.hid hW0
  clear hW0 hs0 h HE
  rw [← hq4] at hc
  rw [← hq1] at h2 h3
  have hHT0 : T = (if q5.2.2 = 0 then (k1, k2, k3, k4, 0, 0, k5, 0, [], 0#32) else zrq, q5.2) := by rw [hT, rep_4 (by rw [← hq4]; exact hc) (by rw [← hq1]; exact h2) (by rw [← hq1]; exact h3), ← hq1, ← hq2, ← hq3, ← hq4, ← hq5, hk1, hk2, hk3, hk4, hk5]
  have hHT : T = (if q5.2.2 = 0 then (k1, k2, k3, k4, 0, 0, k5, 0, [], 0#32) else zrq, q5.2.1, q5.2.2) := hHT0
  have g4 : (k4 == 0) = true := by rw [hk4]; simpa using hc
  have g2 : (k1 == 2) = false := by rw [hk1]; simp; omega
  have g3 : (k1 == 3) = false := by rw [hk1]; simp; omega
  have HT := Lib.hid hHT
  clear hHT hHT0 hq1 hq2 hq3 hq4 hq5 hq6 hq7 hq8 hq9 hq10 hT
  have EQ1 := Lib.hid eq1
  have EQ2 := Lib.hid eq2
  have EQ3 := Lib.hid eq3
  have EQ4 := Lib.hid eq4
  have EQ5 := Lib.hid eq5
  have EQ6 := Lib.hid eq6
  have EQ7 := Lib.hid eq7
  have EQ8 := Lib.hid eq8
  have EQ9 := Lib.hid eq9
  have EQ10 := Lib.hid eq10
  have HK1 := Lib.hid hk1
  have HK2 := Lib.hid hk2
  have HK3 := Lib.hid hk3
  have HK4 := Lib.hid hk4
  have HK5 := Lib.hid hk5
  have HK6 := Lib.hid hk6
  have HK7 := Lib.hid hk7
  have HK8 := Lib.hid hk8
  have HK10 := Lib.hid hk10
  clear eq1 eq2 eq3 eq4 eq5 eq6 eq7 eq8 eq9 eq10 hk1 hk2 hk3 hk4 hk5 hk6 hk7 hk8 hk10
  go_enter Try.func16, Try.ntmps16
  go_wp2_with fail
  rw [← HW0.out]
  refine (HS0.out.num ha hm 2 4 q1 EQ1.out k1 HK1.out).mono ?_
  rintro x w1 ⟨rfl, hs1⟩
  have HS1 := Lib.hid hs1
  clear hs1 HS0
  go_wp2_with fail
  refine (HS1.out.num at1 hm 0 5 q2 EQ2.out k2 HK2.out).mono ?_
  rintro x w2 ⟨rfl, hs2⟩
  have HS2 := Lib.hid hs2
  clear hs2 HS1
  go_wp2_with fail
  refine (HS2.out.num at2 hm 1 1099511627776 q3 EQ3.out k3 HK3.out).mono ?_
  rintro x w3 ⟨rfl, hs3⟩
  have HS3 := Lib.hid hs3
  clear hs3 HS2
  go_wp2_with fail
  refine (HS3.out.num at3 hm 0 16 q4 EQ4.out k4 HK4.out).mono ?_
  rintro x w4 ⟨rfl, hs4⟩
  have HS4 := Lib.hid hs4
  clear hs4 HS3
  obtain ⟨W5, hW5⟩ : ∃ W5, W5 = w4.alloc (.cells #[.int .i64 k1, .int .i64 k2, .int .i64 k3, .int .i64 k4, .int .i64 0, .int .i64 0, .int .i64 0, .int .i64 0, .slice none 0 0, .int .u32 0] 26) := ⟨_, rfl⟩
  have hs5 : RsB w base g l w4.heap.size W5 q4.2.1 q4.2.2 [.int .i64 k1, .int .i64 k2, .int .i64 k3, .int .i64 k4, .int .i64 0, .int .i64 0, .int .i64 0, .int .i64 0, .slice none 0 0, .int .u32 0] := by rw [hW5]; exact HS4.out.alloc _
  have HW5 := Lib.hid hW5
  have HS5 := Lib.hid hs5
  have kx := HS4.out.x.cell (j := 0) rfl
  have hlt4 := HS4.out.x.lt
  clear hW5 hs5 HS4
  go_wp2_with fail
  rw [← HW5.out]
  clear HW5 kx hlt4
  generalize w4.heap.size = b4 at *
  refine (HS5.out.num at4 hm 0 1099511627776 q5 EQ5.out k5 HK5.out).mono ?_
  rintro x w6 ⟨rfl, hs6, _⟩
  have HS6 := Lib.hid hs6
  clear hs6 HS5
  have kx := HS6.out.A.x.cell (j := 0) rfl
  have kz0 := HS6.out.c.cell (j := 0) rfl
  have hn1 := HS6.out.h4
  have hn2 : w.heap.size ≠ b4 := by omega
  have hn3 : b4 ≠ w.heap.size := by omega
  have kc6 := HS6.out.c.cell (j := 6) rfl
  have kf6 := HS6.out.c.frozen 6
  obtain ⟨W7, hW7⟩ : ∃ W, W = w6.setCell ⟨b4, 6, none⟩ (.int .i64 k5) := ⟨_, rfl⟩
  have hs7 : RsB w base g l b4 W7 q5.2.1 q5.2.2 [.int .i64 k1, .int .i64 k2, .int .i64 k3, .int .i64 k4, .int .i64 0, .int .i64 0, .int .i64 k5, .int .i64 0, .slice none 0 0, .int .u32 0] := by rw [hW7]; exact HS6.out.set 6 (.int .i64 k5)
  have HS7 := Lib.hid hs7
  have HW7 := Lib.hid hW7
  clear hs7 hW7
  go_wp2_with fail
  rw [← HW7.out]
  clear HW7
  clear kx kz0 hn1 hn2 hn3 kc6 kf6 HS6
  generalize q5.2.2 = eE at *
  generalize q5.2.1 = aE at *
  have her := rd_err base g l aE eE W7 HS7.out.A.rd
  have HER := Lib.hid her
  clear her
  refine HER.out.mono ?_
  rintro x wE ⟨rfl, rfl⟩
  by_cases hz : eE = 0
  · have b0 : (eE != 0) = false := by simp [hz]
    have hTT : T = (rab ⟨k1, k2, k3, k4, 0, 0, k5, 0, none, 0, 0, [], 0#32⟩, aE, eE) := by rw [HT.out, if_pos hz]; rfl
    have hfin := HS7.out.A.fin ⟨k1, k2, k3, k4, 0, 0, k5, 0, none, 0, 0, [], 0#32⟩ T hTT (okRp.none_ _) (by simp) (fun ad e => by cases e)
    have honr := all_oneCell_toArray (rpc_one ⟨k1, k2, k3, k4, 0, 0, k5, 0, none, 0, 0, [], 0#32⟩)
    have hlnr := rpc_len ⟨k1, k2, k3, k4, 0, 0, k5, 0, none, 0, 0, [], 0#32⟩
    obtain ⟨cr, hcr⟩ : ∃ cr, cr = rpc ⟨k1, k2, k3, k4, 0, 0, k5, 0, none, 0, 0, [], 0#32⟩ := ⟨_, rfl⟩
    have RG : W7.rangeAt b4 0 cr := by rw [hcr]; exact HS7.out.c.range 0 (rpc ⟨k1, k2, k3, k4, 0, 0, k5, 0, none, 0, 0, [], 0#32⟩) rfl
    rw [← hcr] at hfin honr hlnr
    obtain ⟨W9, hW9⟩ : ∃ W9, W9 = W7.setCells (w.heap.size + 1) 0 cr := ⟨_, rfl⟩
    rw [← hW9] at hfin
    have HFIN := Lib.hid hfin.1
    have FIN := Lib.hid hfin.2.1
    have TH := hfin.2.2
    have HW9 := Lib.hid hW9
    have HLN := Lib.hid hlnr
    have HCR := Lib.hid hcr
    have HONE := Lib.hid honr
    clear hfin hTT hz hW9 hcr honr hlnr
    go_wp2_with (first
      | (refine wpList_load_mid rfl 26 (.tmp 4) rfl b4 0 rfl cr _ RG hu rfl (by rw [HLN.out]; exact info_rp) ?_
         simp only [Act.put, List.setIfInBounds_toArray, List.set_cons_zero, List.set_cons_succ])
      | (refine wpList_store_mid rfl 26 (.tmp 2) (.tmp 47) rfl (w.heap.size + 1) 0 cr.toArray rfl rfl (by simpa [HLN.out] using TH) (by simpa [HLN.out] using info_rp) HONE.out ?_
         rw [← HW9.out])
      | fail)
    exact bodyPost_ret (v := .agg cr.toArray) (results_blk (q := 2) rfl _ _ (w.heap.size + 1) cr _ rfl FIN.out hu rfl (by rw [HLN.out]; exact info_rp)) rfl HFIN.out
  · have b0 : (eE != 0) = true := by simp [hz]
    have hTT : T = (rab zrp, aE, eE) := by rw [HT.out, if_neg hz]; rfl
    have hfin := HS7.out.A.fin zrp T hTT (okRp.zero _) (by simp [zrp]) (fun ad e => by cases e)
    have honr := all_oneCell_toArray (rpc_one zrp)
    have hlnr := rpc_len zrp
    obtain ⟨cr, hcr⟩ : ∃ cr, cr = rpc zrp := ⟨_, rfl⟩
    rw [← hcr] at hfin honr hlnr
    obtain ⟨W9, hW9⟩ : ∃ W9, W9 = W7.setCells (w.heap.size + 1) 0 cr := ⟨_, rfl⟩
    rw [← hW9] at hfin
    have HFIN := Lib.hid hfin.1
    have FIN := Lib.hid hfin.2.1
    have TH := hfin.2.2
    have HW9 := Lib.hid hW9
    have HLN := Lib.hid hlnr
    have HCR := Lib.hid hcr
    have HONE := Lib.hid honr
    clear hfin hTT hz hW9 hcr honr hlnr
    go_wp2_with (first
      | (refine wpList_store_mid rfl 26 (.tmp 2) (.tmp 46) rfl (w.heap.size + 1) 0 cr.toArray rfl (by rw [HCR.out]; rfl) (by simpa [HLN.out] using TH) (by simpa [HLN.out] using info_rp) HONE.out ?_
         rw [← HW9.out])
      | fail)
    exact bodyPost_ret (v := .agg cr.toArray) (results_blk (q := 2) rfl _ _ (w.heap.size + 1) cr _ rfl FIN.out hu rfl (by rw [HLN.out]; exact info_rp)) rfl HFIN.out
end Go.Proofs.Ytadmaalhhigbeaa

/- Ledger: what the program's Read returns, all cases. -/
namespace Go.Proofs.Ytadmaalhhigbeaa
set_option linter.unusedVariables false
set_option linter.unusedSimpArgs false
open Go Go.RowKit OctM BitM

theorem lread_any (base g : Nat) (l : List UInt8) (a : Nat) (e : Int) (w : World) (h : Rd w base g l a e) (ha : a ≤ l.length) (hm : l.length ≤ 4000) :
    Calls Try.prog 16 #[.pointer (some ⟨g, 0, none⟩)] w (RepRead w base g l (repOut l a e)) := by
  by_cases hc : (lg4 l a e).1 = 0
  · by_cases h2 : (lg1 l a e).1 = 2
    · exact lread_2 base g l a e w h ha hm hc h2
    · by_cases h3 : (lg1 l a e).1 = 3
      · exact lread_3 base g l a e w h ha hm hc h3
      · exact lread_4 base g l a e w h ha hm hc h2 h3
  · exact lread_no base g l a e w h ha hm hc
end Go.Proofs.Ytadmaalhhigbeaa

/- Filters as they are read of bytes: what the document's node returns. -/
namespace Go.Proofs.Ytadmaalhhigbeaa
set_option linter.unusedVariables false
set_option linter.unusedSimpArgs false
open Go Go.RowKit OctM

theorem Rr.row {w w' : World} {base g : Nat} {l : List UInt8} {e : Int} (h : Rr w base g l e) {row : Option Nat} (hg : w.grownBy w' row) (hr : ∀ q, row = some q → q ≠ g) : Rr w' base g l e := by
  unfold Rr at h ⊢
  refine World.ownsRow.kept h hg (.inr ?_)
  intro e
  exact hr g e.symm rfl
/-- How far the document's node is: the reader, the result's block, the node's block. -/
structure NSt (w : World) (base g G2 G3 : Nat) (l : List UInt8) (wx : World) (a : Nat) (e : Int) (nd : Nd) : Prop where
  rr : Rr wx base g (l.drop a) e
  b2 : Blk wx G2 (ncells zn)
  b3 : Blk wx G3 (ncells nd)
  gr : w.grownBy wx (some g)
  lt : g < w.heap.size
  le : w.heap.size ≤ G2
  l3 : G2 < G3
section
variable {w : World} {base g G2 G3 : Nat} {l : List UInt8} {wx wy : World} {a a' : Nat} {e e' : Int} {nd nd' : Nd}
theorem NSt.read (h : NSt w base g G2 G3 l wx a e nd) (hr : Rr wy base g (l.drop a') e') (hg : wx.grownBy wy (some g)) : NSt w base g G2 G3 l wy a' e' nd :=
  ⟨hr, h.b2.kept hg (by intro e; injection e; have := h.lt; have := h.le; omega), h.b3.kept hg (by intro e; injection e; have := h.lt; have := h.le; have := h.l3; omega), h.gr.trans hg, h.lt, h.le, h.l3⟩
theorem NSt.calm (h : NSt w base g G2 G3 l wx a e nd) (hb : Below wx.heap.size wx wy) : NSt w base g G2 G3 l wy a e nd :=
  ⟨h.rr.later hb, h.b2.later hb, h.b3.later hb, grown_onto h.gr hb, h.lt, h.le, h.l3⟩
theorem NSt.cell (h : NSt w base g G2 G3 l wx a e nd) (j : Nat) (v : Value) (hn : (ncells nd).set j v = ncells nd') : NSt w base g G2 G3 l (wx.setCell ⟨G3, j, none⟩ v) a e nd' :=
  ⟨h.rr.row (grown_setCell wx G3 j v) (fun q e => by injection e with e; have := h.lt; have := h.le; have := h.l3; omega), h.b2.setOther j v (by have := h.l3; omega), hn ▸ h.b3.set j v,
    grown_row h.gr (grown_setCell wx G3 j v) (fun q e => by injection e with e; have := h.le; have := h.l3; omega), h.lt, h.le, h.l3⟩
theorem NSt.val (h : NSt w base g G2 G3 l wx a e nd) (v : V3) : NSt w base g G2 G3 l (wx.setCells G3 2 (vcells v)) a e (nd.1, nd.2.1, v) :=
  ⟨h.rr.row (grown_sets G3 (vcells v) 2 wx) (fun q e => by injection e with e; have := h.lt; have := h.le; have := h.l3; omega), h.b2.setsOther (by have := h.l3; omega) _ _,
    (by
      have := h.b3.sets (vcells v) 2 (by rw [ncells_len]; show 2 + 3 ≤ 5; omega)
      exact this),
    grown_row h.gr (grown_sets G3 (vcells v) 2 wx) (fun q e => by injection e with e; have := h.le; have := h.l3; omega), h.lt, h.le, h.l3⟩
end
set_option maxRecDepth 100000 in
set_option maxHeartbeats 1600000 in
theorem rmost_any (op : Int) (w : World) (h : hasN op = true) : Calls Try.prog 100 #[.int .i64 op] w fun e w' => e = .returned (.int .i64 (npm op)) ∧ w = w' := by
  by_cases h3 : op = 3
  · subst h3; go_enter Try.func100, Try.ntmps100; go_wp2; go_ret; exact ⟨rfl, rfl⟩
  by_cases h4 : op = 4
  · subst h4; go_enter Try.func100, Try.ntmps100; go_wp2; go_ret; exact ⟨rfl, rfl⟩
  have hR : Hid (npm op = 7) := Lib.hid (by unfold npm; rw [if_neg (by omega), if_pos h])
  have b3 : (op == 3) = false := by simpa using h3
  have b4 : (op == 4) = false := by simpa using h4
  clear h3 h4 h
  go_enter Try.func100, Try.ntmps100
  go_wp2
  go_ret
  exact ⟨by rw [hR.out]; rfl, rfl⟩
end Go.Proofs.Ytadmaalhhigbeaa

/- Filters as they are read of bytes: what the document's node returns: the walk. -/
namespace Go.Proofs.Ytadmaalhhigbeaa
set_option linter.unusedVariables false
set_option linter.unusedSimpArgs false
open Go Go.RowKit OctM

theorem NSt.out {w : World} {base g G2 G3 : Nat} {l : List UInt8} {wx : World} {a : Nat} {e : Int} {nd : Nd} (h : NSt w base g G2 G3 l wx a e nd) :
    Blk (wx.setCells G2 0 (ncells nd)) G2 (ncells nd) ∧ Rr (wx.setCells G2 0 (ncells nd)) base g (l.drop a) e ∧ w.grownBy (wx.setCells G2 0 (ncells nd)) (some g) ∧ wx.rangeAt G3 0 (ncells nd) ∧ wx.there G2 0 5 :=
  ⟨by
    have := h.b2.sets (ncells nd) 0 (by rw [ncells_len, ncells_len]; exact Nat.le_refl 5)
    simpa [ncells] using this,
  h.rr.row (grown_sets G2 (ncells nd) 0 wx) (fun q e => by injection e with e; have := h.lt; have := h.le; omega),
  grown_row h.gr (grown_sets G2 (ncells nd) 0 wx) (fun q e => by injection e with e; have := h.le; omega),
  h.b3.range 0 _ (by rw [List.drop_zero, List.take_length]), h.b2.there 0 5 (by rw [ncells_len]; exact Nat.le_refl 5)⟩

set_option maxRecDepth 100000 in
set_option maxHeartbeats 6400000 in
theorem rr_node (base g : Nat) (l : List UInt8) (a : Nat) (w : World) (h : Rr w base g (l.drop a) 0) (ha : a ≤ l.length) (hm : l.length ≤ 4000) :
    Calls Try.prog 84 #[.pointer (some ⟨g, 0, none⟩)] w fun x w' => x = .returned (.agg (ncells (nodeOut l a).1).toArray) ∧ Rr w' base g (l.drop (nodeOut l a).2.1) (nodeOut l a).2.2 ∧ w.grownBy w' (some g) := by
  have hu := Try.underlying71
  have hgl := h.block.2
  have hb0 := (Below.refl w.heap.size w).alloc (Nat.le_refl _) (.cells (ncells zn).toArray 71)
  have hB0 := Blk.new w (ncells zn) 71
  have HNUM := Lib.hid (rr_numd base g l a 0 12 (w.alloc (.cells (ncells zn).toArray 71)) (h.later hb0) hm)
  have e1 : (numOut l a 0 12).1 = ndA l a := rfl
  have e2 : (numOut l a 0 12).2.1 = naA l a := rfl
  rw [e1, e2] at HNUM
  have HERR := Lib.hid (fun hz => numOut_err l a 0 12 hz)
  rw [e1] at HERR
  have HNE : Hid (neA l a = if ndA l a = 0 then failOut (numOut l a 0 12).2.2 3 else (numOut l a 0 12).2.2) := Lib.hid rfl
  obtain ⟨ez, hez⟩ : ∃ ez, ez = (numOut l a 0 12).2.2 := ⟨_, rfl⟩
  rw [← hez] at HNUM HNE HERR
  have hsz0 : (w.alloc (.cells (ncells zn).toArray 71)).heap.size = w.heap.size + 1 := by simp
  obtain ⟨W0, hW0⟩ : ∃ W, W = w.alloc (.cells (ncells zn).toArray 71) := ⟨_, rfl⟩
  have HW0 := Lib.hid hW0
  rw [← hW0] at HNUM hb0 hB0 hsz0
  rw [znode] at HW0
  have HG0 : Hid (w.grownBy W0 (some g)) := Lib.hid ⟨hb0.os, hb0.tape, hb0.output, hb0.size, fun q hq _ => hb0.block q hq⟩
  have HNA := Lib.hid (naA_at (l := l) ha)
  have HBA := Lib.hid (nB_at (l := l) ha)
  obtain ⟨⟨nd4, a4, e4⟩, hq4⟩ : ∃ q, q = nodeOut l a := ⟨_, rfl⟩
  have HQ := Lib.hid hq4
  rw [← hq4]
  simp only
  clear h hb0 hW0 e1 e2 hez hq4
  go_enter Try.func84, Try.ntmps84
  go_wp2_with fail
  rw [← HW0.out]
  refine HNUM.out.mono ?_
  rintro e w1 ⟨rfl, hr1, hg1⟩
  clear HNUM
  have B2 := hB0.kept hg1 (by simp; omega)
  have hw1 := hg1.size
  have hb1 := (Below.refl w1.heap.size w1).alloc (Nat.le_refl _) (.cells (ncells zn).toArray 71)
  have hB3 := Blk.new w1 (ncells zn) 71
  have TH3 := hB3.there 0 5 (by rw [ncells_len]; exact Nat.le_refl 5)
  have S0 : NSt w base g w.heap.size w1.heap.size l (w1.alloc (.cells (ncells zn).toArray 71)) (naA l a) ez zn :=
    ⟨hr1.later hb1, B2.later hb1, hB3, grown_onto (HG0.out.trans hg1) hb1, hgl, Nat.le_refl _, by omega⟩
  have S1 : NSt w base g w.heap.size w1.heap.size l ((w1.alloc (.cells (ncells zn).toArray 71)).setCells w1.heap.size 0 (ncells ((ndA l a : Int), 0, zv))) (naA l a) ez ((ndA l a : Int), 0, zv) :=
    ⟨S0.rr.row (grown_sets _ _ _ _) (fun q e => by injection e with e; omega), S0.b2.setsOther (by omega) _ _, (by
      have := S0.b3.sets (ncells ((ndA l a : Int), 0, zv)) 0 (by rw [ncells_len, ncells_len]; exact Nat.le_refl 5)
      simpa [ncells] using this), grown_row S0.gr (grown_sets _ _ _ _) (fun q e => by injection e with e; omega), S0.lt, S0.le, S0.l3⟩
  obtain ⟨W1, hW1⟩ : ∃ W, W = (w1.alloc (.cells (ncells zn).toArray 71)).setCells w1.heap.size 0 (ncells ((ndA l a : Int), 0, zv)) := ⟨_, rfl⟩
  rw [← hW1] at S1
  have HW1 : Hid (W1 = (w1.alloc (.cells #[.int .i64 0, .int .i64 0, .int .i64 0, .int .i64 0, .string ⟨#[]⟩] 71)).setCells w1.heap.size 0 [.int .i64 (ndA l a : Int), .int .i64 0, .int .i64 0, .int .i64 0, .string ⟨#[]⟩]) := Lib.hid hW1
  rw [znode] at TH3
  obtain ⟨G3, hG3⟩ : ∃ G, G = w1.heap.size := ⟨_, rfl⟩
  rw [← hG3] at TH3 S1 HW1
  have HG3 := Lib.hid hG3
  have HS1 := Lib.hid S1
  have q1 := S1.rr.facts.2.1
  have q0 := S1.b3.cell (j := 0) rfl
  clear hb1 hB3 B2 hB0 S0 hr1 hg1 hW1 S1 hG3 HG0 hsz0 hw1
  -- the ways
  by_cases h0 : ndA l a = 0
  · have en : nodeOut l a = ((0, 0, zv), naA l a, neA l a) := by
      have h1 := nA_stop (l := l) (a := a) (neA_no h0)
      have hb : (nB l a).1 = 0 := by unfold nB; rw [h0]; rw [if_neg (by show ¬ hasN 0 = true; rw [hasN_zero]; simp)]
      have hv : (nV l a).1 = zv := by unfold nV; rw [h0]; rw [if_neg (by show ¬ hasV 0 = true; rw [hasV_zero]; simp)]
      have h2 : (nodeOut l a).1 = (0, 0, zv) := by show ndOf l a = _; unfold ndOf; rw [hb, hv, h0]; rfl
      rw [← h1, ← h2]
    have HE2 : Hid (neA l a = failOut ez 3) := Lib.hid (by rw [HNE.out, if_pos h0])
    rw [h0] at HS1 HW1 q0
    have z0 : ((0 : Nat) : Int) = 0 := rfl
    rw [z0] at HS1 HW1 q0
    have HQ1 : Hid (nd4 = (0, 0, zv)) := Lib.hid (by have := HQ.out; rw [en] at this; injection this)
    have HQ2 : Hid (a4 = naA l a) := Lib.hid (by have := HQ.out; rw [en] at this; injection this with _ h; injection h)
    have HQ3 : Hid (e4 = failOut ez 3) := Lib.hid (by have := HQ.out; rw [en, HE2.out] at this; injection this with _ h; injection h)
    rw [h0]
    generalize naA l a = aA at HS1 HQ2
    clear en h0 HNE HERR HE2
    by_cases hz : ez = 0
    · subst hz
      go_wp2_with (first
        | (refine wpList_store_mid rfl 71 (.tmp 3) (.tmp 6) rfl w1.heap.size 0 _ rfl rfl (by rw [← HG3.out]; exact TH3) (by exact info_node) (by simp [Value.oneCell']) ?_
           rw [← HG3.out]
           rw [show (w1.alloc (.cells #[.int .i64 0, .int .i64 0, .int .i64 0, .int .i64 0, .string ⟨#[]⟩] 71)).setCells G3 0 (#[.int .i64 0, .int .i64 0, .int .i64 0, .int .i64 0, .string ⟨#[]⟩] : Array Value).toList = W1 from HW1.out.symm])
        | fail)
      refine (rr_fail base g (l.drop aA) 0 3 _ HS1.out.rr).mono ?_
      rintro e w3 ⟨rfl, hr3, hg3⟩
      have HS2 := Lib.hid (HS1.out.read hr3 hg3)
      have q0 := HS2.out.b3.cell (j := 0) rfl
      clear hr3 hg3
      obtain ⟨f1, f2, f3, f4, f5⟩ := HS2.out.out
      have HF := Lib.hid (And.intro f1 (And.intro f2 f3))
      have HSZ : Hid ((ncells (0, 0, zv)).length = 5) := Lib.hid rfl
      have HONE : Hid (∀ zz ∈ ncells (0, 0, zv), zz.oneCell' = true) := Lib.hid (fun zz hv => ncs_one [(0, 0, zv)] zz (by simpa [ncs] using hv))
      obtain ⟨nc, hnc⟩ : ∃ nc, nc = ncells (0, 0, zv) := ⟨_, rfl⟩
      rw [← hnc] at f4 HF HSZ HONE
      have HNC := Lib.hid hnc
      clear hnc f1 f2 f3
      go_wp2_with (first
        | (refine wpList_load_mid rfl 71 (.tmp 3) rfl G3 0 rfl nc _ f4 hu rfl (by rw [HSZ.out]; exact info_node) ?_)
        | (refine wpList_store_mid rfl 71 (.tmp 2) (.tmp 56) rfl w.heap.size 0 nc.toArray rfl rfl (by simpa [HSZ.out] using f5) (by simpa [HSZ.out] using info_node) (all_oneCell_toArray HONE.out) ?_)
        | fail)
      exact bodyPost_ret (v := .agg nc.toArray) (results_blk (q := 2) rfl _ _ w.heap.size nc _ rfl HF.out.1 hu rfl (by rw [HSZ.out]; exact info_node)) rfl ⟨by rw [HNC.out, ← HQ1.out], by rw [HQ2.out, HQ3.out]; exact HF.out.2.1, HF.out.2.2⟩
    · have bz : (ez == 0) = false := by simp [hz]
      have HE3 : Hid (failOut ez 3 = ez) := Lib.hid (failOut_not _ _ hz)
      rw [HE3.out] at HQ3
      clear hz
      obtain ⟨f1, f2, f3, f4, f5⟩ := HS1.out.out
      have HF := Lib.hid (And.intro f1 (And.intro f2 f3))
      have HSZ : Hid ((ncells (0, 0, zv)).length = 5) := Lib.hid rfl
      have HONE : Hid (∀ zz ∈ ncells (0, 0, zv), zz.oneCell' = true) := Lib.hid (fun zz hv => ncs_one [(0, 0, zv)] zz (by simpa [ncs] using hv))
      obtain ⟨nc, hnc⟩ : ∃ nc, nc = ncells (0, 0, zv) := ⟨_, rfl⟩
      rw [← hnc] at f4 HF HSZ HONE
      have HNC := Lib.hid hnc
      clear hnc f1 f2 f3
      go_wp2_with (first
        | (refine wpList_store_mid rfl 71 (.tmp 3) (.tmp 6) rfl w1.heap.size 0 _ rfl rfl (by rw [← HG3.out]; exact TH3) (by exact info_node) (by simp [Value.oneCell']) ?_
           rw [← HG3.out]
           rw [show (w1.alloc (.cells #[.int .i64 0, .int .i64 0, .int .i64 0, .int .i64 0, .string ⟨#[]⟩] 71)).setCells G3 0 (#[.int .i64 0, .int .i64 0, .int .i64 0, .int .i64 0, .string ⟨#[]⟩] : Array Value).toList = W1 from HW1.out.symm])
        | (refine wpList_load_mid rfl 71 (.tmp 3) rfl G3 0 rfl nc _ f4 hu rfl (by rw [HSZ.out]; exact info_node) ?_)
        | (refine wpList_store_mid rfl 71 (.tmp 2) (.tmp 56) rfl w.heap.size 0 nc.toArray rfl rfl (by simpa [HSZ.out] using f5) (by simpa [HSZ.out] using info_node) (all_oneCell_toArray HONE.out) ?_)
        | fail)
      exact bodyPost_ret (v := .agg nc.toArray) (results_blk (q := 2) rfl _ _ w.heap.size nc _ rfl HF.out.1 hu rfl (by rw [HSZ.out]; exact info_node)) rfl ⟨by rw [HNC.out, ← HQ1.out], by rw [HQ2.out, HQ3.out]; exact HF.out.2.1, HF.out.2.2⟩
  · have hz0 : ez = 0 := by
      by_cases hz : ez = 0
      · exact hz
      · exact absurd (HERR.out hz) h0
    have HA0 : Hid (neA l a = 0) := Lib.hid (by rw [HNE.out, if_neg h0]; exact hz0)
    subst hz0
    have bop : ((ndA l a : Int) == 0) = false := by simp [h0]
    have bopn : (ndA l a == 0) = false := by simp [h0]
    clear HNE HERR h0
    cases hN : hasN (ndA l a : Int) with
    | false =>
      have hV : hasV (ndA l a : Int) = false := by
        cases hV : hasV (ndA l a : Int) with
        | false => rfl
        | true => rw [hasV_N hV] at hN; cases hN
      have eB : nB l a = (0, naA l a, 0) := by unfold nB; rw [if_neg (by rw [hN]; simp), HA0.out]
      have eV : nV l a = (zv, naA l a, 0) := by unfold nV; rw [if_neg (by rw [hV]; simp), eB]
      have hok := nok_plain (l := l) (a := a) (by rw [eB]) hV
      have en : nodeOut l a = (((ndA l a : Int), 0, zv), naA l a, 0) := by unfold nodeOut; rw [if_pos hok, eV]; unfold ndOf; rw [eB, eV]; rfl
      have HQ1 : Hid (nd4 = ((ndA l a : Int), 0, zv)) := Lib.hid (by have := HQ.out; rw [en] at this; injection this)
      have HQ2 : Hid (a4 = naA l a) := Lib.hid (by have := HQ.out; rw [en] at this; injection this with _ h; injection h)
      have HQ3 : Hid (e4 = 0) := Lib.hid (by have := HQ.out; rw [en] at this; injection this with _ h; injection h)
      have hNN := of_decide_eq_false (show decide (3 ≤ (ndA l a : Int) ∧ (ndA l a : Int) ≤ 9) = false from hN)
      generalize naA l a = aA at HS1 HQ2
      clear hN hV eB eV hok en
      generalize ndA l a = op at HS1 HW1 q0 bop bopn HQ1 hNN ⊢
      by_cases h3 : 3 ≤ op
      · have d3 : decide ((3 : Int) ≤ (op : Int)) = true := by simp; omega
        have d6 : decide ((6 : Int) ≤ (op : Int)) = true := by simp; omega
        have d9 : decide ((op : Int) ≤ 9) = false := by simp; omega
        have n3 : decide (3 ≤ op) = true := by simp; omega
        have n6 : decide (6 ≤ op) = true := by simp; omega
        have n9 : decide (op ≤ 9) = false := by simp; omega
        clear h3 hNN
        obtain ⟨f1, f2, f3, f4, f5⟩ := HS1.out.out
        have HF := Lib.hid (And.intro f1 (And.intro f2 f3))
        have HSZ : Hid ((ncells ((op : Int), 0, zv)).length = 5) := Lib.hid rfl
        have HONE : Hid (∀ zz ∈ ncells ((op : Int), 0, zv), zz.oneCell' = true) := Lib.hid (fun zz hv => ncs_one [((op : Int), 0, zv)] zz (by simpa [ncs] using hv))
        obtain ⟨nc, hnc⟩ : ∃ nc, nc = ncells ((op : Int), 0, zv) := ⟨_, rfl⟩
        rw [← hnc] at f4 HF HSZ HONE
        have HNC := Lib.hid hnc
        clear hnc f1 f2 f3
        go_wp2_with (first
          | (refine wpList_store_mid rfl 71 (.tmp 3) (.tmp 6) rfl w1.heap.size 0 _ rfl rfl (by rw [← HG3.out]; exact TH3) (by exact info_node) (by simp [Value.oneCell']) ?_
             rw [← HG3.out]
             rw [show (w1.alloc (.cells #[.int .i64 0, .int .i64 0, .int .i64 0, .int .i64 0, .string ⟨#[]⟩] 71)).setCells G3 0 (#[.int .i64 op, .int .i64 0, .int .i64 0, .int .i64 0, .string ⟨#[]⟩] : Array Value).toList = W1 from HW1.out.symm])
          | (refine wpList_load_mid rfl 71 (.tmp 3) rfl G3 0 rfl nc _ f4 hu rfl (by rw [HSZ.out]; exact info_node) ?_)
          | (refine wpList_store_mid rfl 71 (.tmp 2) (.tmp 56) rfl w.heap.size 0 nc.toArray rfl rfl (by simpa [HSZ.out] using f5) (by simpa [HSZ.out] using info_node) (all_oneCell_toArray HONE.out) ?_)
          | fail)
        exact bodyPost_ret (v := .agg nc.toArray) (results_blk (q := 2) rfl _ _ w.heap.size nc _ rfl HF.out.1 hu rfl (by rw [HSZ.out]; exact info_node)) rfl ⟨by rw [HNC.out, ← HQ1.out], by rw [HQ2.out, HQ3.out]; exact HF.out.2.1, HF.out.2.2⟩
      · have d3 : decide ((3 : Int) ≤ (op : Int)) = false := by simp; omega
        have d6 : decide ((6 : Int) ≤ (op : Int)) = false := by simp; omega
        have n3 : decide (3 ≤ op) = false := by simp; omega
        have n6 : decide (6 ≤ op) = false := by simp; omega
        clear h3 hNN
        obtain ⟨f1, f2, f3, f4, f5⟩ := HS1.out.out
        have HF := Lib.hid (And.intro f1 (And.intro f2 f3))
        have HSZ : Hid ((ncells ((op : Int), 0, zv)).length = 5) := Lib.hid rfl
        have HONE : Hid (∀ zz ∈ ncells ((op : Int), 0, zv), zz.oneCell' = true) := Lib.hid (fun zz hv => ncs_one [((op : Int), 0, zv)] zz (by simpa [ncs] using hv))
        obtain ⟨nc, hnc⟩ : ∃ nc, nc = ncells ((op : Int), 0, zv) := ⟨_, rfl⟩
        rw [← hnc] at f4 HF HSZ HONE
        have HNC := Lib.hid hnc
        clear hnc f1 f2 f3
        go_wp2_with (first
          | (refine wpList_store_mid rfl 71 (.tmp 3) (.tmp 6) rfl w1.heap.size 0 _ rfl rfl (by rw [← HG3.out]; exact TH3) (by exact info_node) (by simp [Value.oneCell']) ?_
             rw [← HG3.out]
             rw [show (w1.alloc (.cells #[.int .i64 0, .int .i64 0, .int .i64 0, .int .i64 0, .string ⟨#[]⟩] 71)).setCells G3 0 (#[.int .i64 op, .int .i64 0, .int .i64 0, .int .i64 0, .string ⟨#[]⟩] : Array Value).toList = W1 from HW1.out.symm])
          | (refine wpList_load_mid rfl 71 (.tmp 3) rfl G3 0 rfl nc _ f4 hu rfl (by rw [HSZ.out]; exact info_node) ?_)
          | (refine wpList_store_mid rfl 71 (.tmp 2) (.tmp 56) rfl w.heap.size 0 nc.toArray rfl rfl (by simpa [HSZ.out] using f5) (by simpa [HSZ.out] using info_node) (all_oneCell_toArray HONE.out) ?_)
          | fail)
        exact bodyPost_ret (v := .agg nc.toArray) (results_blk (q := 2) rfl _ _ w.heap.size nc _ rfl HF.out.1 hu rfl (by rw [HSZ.out]; exact info_node)) rfl ⟨by rw [HNC.out, ← HQ1.out], by rw [HQ2.out, HQ3.out]; exact HF.out.2.1, HF.out.2.2⟩
    | true =>
      have hNN := of_decide_eq_true (show decide (3 ≤ (ndA l a : Int) ∧ (ndA l a : Int) ≤ 9) = true from hN)
      have HM := Lib.hid (fun wx : World => rmost_any (ndA l a : Int) wx hN)
      have eB : nB l a = numOut l (naA l a) 0 (npm (ndA l a : Int)) := by unfold nB; rw [if_pos hN, HA0.out]
      have HN2 := Lib.hid (fun wx (hx : Rr wx base g (l.drop (naA l a)) 0) => rr_numd base g l (naA l a) 0 (npm (ndA l a : Int)) wx hx hm)
      rw [← eB] at HN2
      have d3 : decide ((3 : Int) ≤ (ndA l a : Int)) = true := by simp; omega
      have d9 : decide ((ndA l a : Int) ≤ 9) = true := by simp; omega
      have n3 : decide (3 ≤ ndA l a) = true := by simp; omega
      have n9 : decide (ndA l a ≤ 9) = true := by simp; omega
      have HV2 := Lib.hid (fun wx (hx : Rr wx base g (l.drop (nB l a).2.1) (nB l a).2.2) => rr_value base g l (nB l a).2.1 (nB l a).2.2 wx hx HBA.out hm)
      cases hV : hasV (ndA l a : Int) with
      | false =>
        have hVV := of_decide_eq_false (show decide (6 ≤ (ndA l a : Int) ∧ (ndA l a : Int) ≤ 9) = false from hV)
        have d6 : decide ((6 : Int) ≤ (ndA l a : Int)) = false := by simp; omega
        have n6 : decide (6 ≤ ndA l a) = false := by simp; omega
        have eV : nV l a = (zv, (nB l a).2) := by unfold nV; rw [if_neg (by rw [hV]; simp)]
        have en : nodeOut l a = (((ndA l a : Int), ((nB l a).1 : Int), zv), (nB l a).2.1, (nB l a).2.2) := by
          have e1 : (nodeOut l a).1 = ((ndA l a : Int), ((nB l a).1 : Int), zv) := by show ndOf l a = _; unfold ndOf; rw [eV]
          have e2 : (nodeOut l a).2 = (nB l a).2 := by
            by_cases hz : (nB l a).2.2 = 0
            · have hok := nok_plain hz hV
              unfold nodeOut
              rw [if_pos hok, eV]
            · exact nB_stop hz
          rw [← e1, ← e2]
        have HQ1 : Hid (nd4 = ((ndA l a : Int), ((nB l a).1 : Int), zv)) := Lib.hid (by have := HQ.out; rw [en] at this; injection this)
        have HQ2 : Hid (a4 = (nB l a).2.1) := Lib.hid (by have := HQ.out; rw [en] at this; injection this with _ h; injection h)
        have HQ3 : Hid (e4 = (nB l a).2.2) := Lib.hid (by have := HQ.out; rw [en] at this; injection this with _ h; injection h)
        clear HV2
        obtain ⟨⟨m, a2, e2⟩, hq2⟩ : ∃ q, q = nB l a := ⟨_, rfl⟩
        rw [← hq2] at HN2 HQ1 HQ2 HQ3
        simp only at HN2 HQ1 HQ2 HQ3
        generalize naA l a = aA at HS1 HN2
        generalize npm (ndA l a : Int) = mm at HM HN2
        clear hN hV eB eV en hNN hVV hq2
        generalize ndA l a = op at HS1 HW1 q0 bop bopn HQ1 HM d3 d9 d6 n3 n6 n9 ⊢
        go_wp2_with (first
          | (refine wpList_store_mid rfl 71 (.tmp 3) (.tmp 6) rfl w1.heap.size 0 _ rfl rfl (by rw [← HG3.out]; exact TH3) (by exact info_node) (by simp [Value.oneCell']) ?_
             rw [← HG3.out]
             rw [show (w1.alloc (.cells #[.int .i64 0, .int .i64 0, .int .i64 0, .int .i64 0, .string ⟨#[]⟩] 71)).setCells G3 0 (#[.int .i64 op, .int .i64 0, .int .i64 0, .int .i64 0, .string ⟨#[]⟩] : Array Value).toList = W1 from HW1.out.symm])
          | fail)
        refine (HM.out _).mono ?_
        rintro e w' ⟨rfl, rfl⟩
        go_wp2_with fail
        refine (HN2.out _ HS1.out.rr).mono ?_
        rintro e w3 ⟨rfl, hr3, hg3⟩
        have S2 := HS1.out.read hr3 hg3
        have HS3 := Lib.hid (S2.cell (nd' := ((op : Int), (m : Int), zv)) 1 (.int .i64 (m : Int)) rfl)
        have x0 := S2.b3.frozen 1
        have x1 := S2.b3.cell (j := 1) rfl
        have q0 := HS3.out.b3.cell (j := 0) rfl
        clear hr3 hg3 S2 HS1 HM HN2
        obtain ⟨f1, f2, f3, f4, f5⟩ := HS3.out.out
        have HF := Lib.hid (And.intro f1 (And.intro f2 f3))
        have HSZ : Hid ((ncells ((op : Int), (m : Int), zv)).length = 5) := Lib.hid rfl
        have HONE : Hid (∀ zz ∈ ncells ((op : Int), (m : Int), zv), zz.oneCell' = true) := Lib.hid (fun zz hv => ncs_one [((op : Int), (m : Int), zv)] zz (by simpa [ncs] using hv))
        obtain ⟨nc, hnc⟩ : ∃ nc, nc = ncells ((op : Int), (m : Int), zv) := ⟨_, rfl⟩
        rw [← hnc] at f4 HF HSZ HONE
        have HNC := Lib.hid hnc
        clear hnc f1 f2 f3
        go_wp2_with (first
          | (refine wpList_load_mid rfl 71 (.tmp 3) rfl G3 0 rfl nc _ f4 hu rfl (by rw [HSZ.out]; exact info_node) ?_)
          | (refine wpList_store_mid rfl 71 (.tmp 2) (.tmp 56) rfl w.heap.size 0 nc.toArray rfl rfl (by simpa [HSZ.out] using f5) (by simpa [HSZ.out] using info_node) (all_oneCell_toArray HONE.out) ?_)
          | fail)
        exact bodyPost_ret (v := .agg nc.toArray) (results_blk (q := 2) rfl _ _ w.heap.size nc _ rfl HF.out.1 hu rfl (by rw [HSZ.out]; exact info_node)) rfl ⟨by rw [HNC.out, ← HQ1.out], by rw [HQ2.out, HQ3.out]; exact HF.out.2.1, HF.out.2.2⟩
      | true =>
        have hVV := of_decide_eq_true (show decide (6 ≤ (ndA l a : Int) ∧ (ndA l a : Int) ≤ 9) = true from hV)
        have d6 : decide ((6 : Int) ≤ (ndA l a : Int)) = true := by simp; omega
        have n6 : decide (6 ≤ ndA l a) = true := by simp; omega
        have eV : nV l a = valOut l (nB l a).2.1 (nB l a).2.2 := by unfold nV; rw [if_pos hV]
        rw [← eV] at HV2
        have HND := Lib.hid (fun wx : World => rnode_any (ndOf l a) wx)
        have e3 : ndOf l a = ((ndA l a : Int), ((nB l a).1 : Int), (nV l a).1) := rfl
        have en : nodeOut l a = (ndOf l a, (nV l a).2.1, if nok (ndOf l a) = true then (nV l a).2.2 else failOut (nV l a).2.2 3) := rfl
        have HQ1 : Hid (nd4 = ndOf l a) := Lib.hid (by have := HQ.out; rw [en] at this; injection this)
        have HQ2 : Hid (a4 = (nV l a).2.1) := Lib.hid (by have := HQ.out; rw [en] at this; injection this with _ h; injection h)
        have HQ3 : Hid (e4 = if nok (ndOf l a) = true then (nV l a).2.2 else failOut (nV l a).2.2 3) := Lib.hid (by have := HQ.out; rw [en] at this; injection this with _ h; injection h)
        rw [e3] at HND HQ1 HQ3
        obtain ⟨ok, hok⟩ : ∃ ok, ok = nok ((ndA l a : Int), ((nB l a).1 : Int), (nV l a).1) := ⟨_, rfl⟩
        rw [← hok] at HND HQ3
        obtain ⟨⟨v, a3, e5⟩, hq3⟩ : ∃ q, q = nV l a := ⟨_, rfl⟩
        rw [← hq3] at HV2 HND HQ1 HQ2 HQ3
        simp only at HV2 HND HQ1 HQ2 HQ3
        obtain ⟨⟨m, a2, e2⟩, hq2⟩ : ∃ q, q = nB l a := ⟨_, rfl⟩
        rw [← hq2] at HN2 HV2 HND HQ1
        simp only at HN2 HV2 HND HQ1
        generalize naA l a = aA at HS1 HN2
        generalize npm (ndA l a : Int) = mm at HM HN2
        clear hN hV eB eV en hNN hVV hq2 hq3 e3 hok
        generalize ndA l a = op at HS1 HW1 q0 bop bopn HQ1 HM HND d3 d9 d6 n3 n6 n9 ⊢
        have HVC : Hid ((vcells v).length = 3) := Lib.hid rfl
        have HONV : Hid (∀ u ∈ vcells v, u.oneCell' = true) := Lib.hid (fun u hu => fcells_one [v] u (by simpa [fcells] using hu))
        go_wp2_with (first
          | (refine wpList_store_mid rfl 71 (.tmp 3) (.tmp 6) rfl w1.heap.size 0 _ rfl rfl (by rw [← HG3.out]; exact TH3) (by exact info_node) (by simp [Value.oneCell']) ?_
             rw [← HG3.out]
             rw [show (w1.alloc (.cells #[.int .i64 0, .int .i64 0, .int .i64 0, .int .i64 0, .string ⟨#[]⟩] 71)).setCells G3 0 (#[.int .i64 op, .int .i64 0, .int .i64 0, .int .i64 0, .string ⟨#[]⟩] : Array Value).toList = W1 from HW1.out.symm])
          | fail)
        refine (HM.out _).mono ?_
        rintro e w' ⟨rfl, rfl⟩
        go_wp2_with fail
        refine (HN2.out _ HS1.out.rr).mono ?_
        rintro e w3 ⟨rfl, hr3, hg3⟩
        have S2 := HS1.out.read hr3 hg3
        have HS3 := Lib.hid (S2.cell (nd' := ((op : Int), (m : Int), zv)) 1 (.int .i64 (m : Int)) rfl)
        have x0 := S2.b3.frozen 1
        have x1 := S2.b3.cell (j := 1) rfl
        have q0 := HS3.out.b3.cell (j := 0) rfl
        clear hr3 hg3 S2 HS1 HM HN2
        go_wp2_with fail
        refine (HV2.out _ HS3.out.rr).mono ?_
        rintro e w4 ⟨rfl, hr4, hg4⟩
        have S4 := HS3.out.read hr4 hg4
        have HS5 := Lib.hid (S4.val v)
        have TH5 := S4.b3.there 2 3 (by rw [ncells_len]; omega)
        have y1 := HS5.out.rr.facts.2.1
        have RG5 := HS5.out.b3.range 0 _ (by rw [List.drop_zero, List.take_length])
        simp only at HS5 y1 RG5
        have HSZ5 : Hid ((ncells ((op : Int), (m : Int), v)).length = 5) := Lib.hid rfl
        have HONE5 : Hid (∀ u ∈ ncells ((op : Int), (m : Int), v), u.oneCell' = true) := Lib.hid (fun u hu => ncs_one [((op : Int), (m : Int), v)] u (by simpa [ncs] using hu))
        obtain ⟨vc, hvc⟩ : ∃ vc, vc = vcells v := ⟨_, rfl⟩
        rw [← hvc] at HS5 y1 RG5 HVC HONV ⊢
        obtain ⟨n5, hn5⟩ : ∃ n5, n5 = ncells ((op : Int), (m : Int), v) := ⟨_, rfl⟩
        rw [← hn5] at RG5 HSZ5 HND HONE5
        have HN5 := Lib.hid hn5
        clear hr4 hg4 S4 HS3 HV2 hn5 hvc q0
        by_cases hz : e5 = 0
        · subst hz
          cases ok with
          | true =>
            rw [if_pos rfl] at HQ3
            go_wp2_with (first
              | (refine wpList_store_mid rfl 69 (.tmp 43) (.tmp 42) rfl G3 2 vc.toArray rfl rfl (by simpa [HVC.out] using TH5) (by simpa [HVC.out] using info_val3) (all_oneCell_toArray HONV.out) ?_)
              | (refine wpList_load_g (by rfl) 71 (.tmp 3) rfl G3 0 rfl n5 _ RG5 hu rfl (by rw [HSZ5.out]; exact info_node) ?_)
              | fail)
            refine (HND.out _).mono ?_
            rintro e w6 ⟨rfl, hb6⟩
            have HS6 := Lib.hid (HS5.out.calm hb6)
            clear RG5 TH5 hb6 HS5 y1
            obtain ⟨f1, f2, f3, f4, f5⟩ := HS6.out.out
            have HF := Lib.hid (And.intro f1 (And.intro f2 f3))
            have HSZ : Hid ((ncells ((op : Int), (m : Int), v)).length = 5) := Lib.hid rfl
            have HONE : Hid (∀ zz ∈ ncells ((op : Int), (m : Int), v), zz.oneCell' = true) := Lib.hid (fun zz hv => ncs_one [((op : Int), (m : Int), v)] zz (by simpa [ncs] using hv))
            obtain ⟨nc, hnc⟩ : ∃ nc, nc = ncells ((op : Int), (m : Int), v) := ⟨_, rfl⟩
            rw [← hnc] at f4 HF HSZ HONE
            have HNC := Lib.hid hnc
            clear hnc f1 f2 f3
            go_wp2_with (first
              | (refine wpList_load_mid rfl 71 (.tmp 3) rfl G3 0 rfl nc _ f4 hu rfl (by rw [HSZ.out]; exact info_node) ?_)
              | (refine wpList_store_mid rfl 71 (.tmp 2) (.tmp 56) rfl w.heap.size 0 nc.toArray rfl rfl (by simpa [HSZ.out] using f5) (by simpa [HSZ.out] using info_node) (all_oneCell_toArray HONE.out) ?_)
              | fail)
            exact bodyPost_ret (v := .agg nc.toArray) (results_blk (q := 2) rfl _ _ w.heap.size nc _ rfl HF.out.1 hu rfl (by rw [HSZ.out]; exact info_node)) rfl ⟨by rw [HNC.out, ← HQ1.out], by rw [HQ2.out, HQ3.out]; exact HF.out.2.1, HF.out.2.2⟩
          | false =>
            rw [if_neg (by simp), failOut_zero] at HQ3
            go_wp2_with (first
              | (refine wpList_store_mid rfl 69 (.tmp 43) (.tmp 42) rfl G3 2 vc.toArray rfl rfl (by simpa [HVC.out] using TH5) (by simpa [HVC.out] using info_val3) (all_oneCell_toArray HONV.out) ?_)
              | (refine wpList_load_g (by rfl) 71 (.tmp 3) rfl G3 0 rfl n5 _ RG5 hu rfl (by rw [HSZ5.out]; exact info_node) ?_)
              | fail)
            refine (HND.out _).mono ?_
            rintro e w6 ⟨rfl, hb6⟩
            have HS6 := Lib.hid (HS5.out.calm hb6)
            clear RG5 TH5 hb6 HS5 y1
            go_wp2_with fail
            refine (rr_fail base g (l.drop a3) 0 3 _ HS6.out.rr).mono ?_
            rintro e w7 ⟨rfl, hr7, hg7⟩
            have HS7 := Lib.hid (HS6.out.read hr7 hg7)
            clear hr7 hg7 HS6
            obtain ⟨f1, f2, f3, f4, f5⟩ := HS7.out.out
            have HF := Lib.hid (And.intro f1 (And.intro f2 f3))
            have HSZ : Hid ((ncells ((op : Int), (m : Int), v)).length = 5) := Lib.hid rfl
            have HONE : Hid (∀ zz ∈ ncells ((op : Int), (m : Int), v), zz.oneCell' = true) := Lib.hid (fun zz hv => ncs_one [((op : Int), (m : Int), v)] zz (by simpa [ncs] using hv))
            obtain ⟨nc, hnc⟩ : ∃ nc, nc = ncells ((op : Int), (m : Int), v) := ⟨_, rfl⟩
            rw [← hnc] at f4 HF HSZ HONE
            have HNC := Lib.hid hnc
            clear hnc f1 f2 f3
            go_wp2_with (first
              | (refine wpList_load_mid rfl 71 (.tmp 3) rfl G3 0 rfl nc _ f4 hu rfl (by rw [HSZ.out]; exact info_node) ?_)
              | (refine wpList_store_mid rfl 71 (.tmp 2) (.tmp 56) rfl w.heap.size 0 nc.toArray rfl rfl (by simpa [HSZ.out] using f5) (by simpa [HSZ.out] using info_node) (all_oneCell_toArray HONE.out) ?_)
              | fail)
            exact bodyPost_ret (v := .agg nc.toArray) (results_blk (q := 2) rfl _ _ w.heap.size nc _ rfl HF.out.1 hu rfl (by rw [HSZ.out]; exact info_node)) rfl ⟨by rw [HNC.out, ← HQ1.out], by rw [HQ2.out, HQ3.out]; exact HF.out.2.1, HF.out.2.2⟩
        · have bz : (e5 == 0) = false := by simp [hz]
          have HQ4 : Hid (e4 = e5) := Lib.hid (by rw [HQ3.out]; cases ok with
            | true => rfl
            | false => rw [if_neg (by simp), failOut_not _ _ hz])
          have HQ3 := HQ4
          clear hz
          obtain ⟨f1, f2, f3, f4, f5⟩ := HS5.out.out
          have HF := Lib.hid (And.intro f1 (And.intro f2 f3))
          rw [← HN5.out] at f4 HF
          clear f1 f2 f3
          go_wp2_with (first
            | (refine wpList_store_mid rfl 69 (.tmp 43) (.tmp 42) rfl G3 2 vc.toArray rfl rfl (by simpa [HVC.out] using TH5) (by simpa [HVC.out] using info_val3) (all_oneCell_toArray HONV.out) ?_)
            | (refine wpList_load_mid rfl 71 (.tmp 3) rfl G3 0 rfl n5 _ f4 hu rfl (by rw [HSZ5.out]; exact info_node) ?_)
            | (refine wpList_store_mid rfl 71 (.tmp 2) (.tmp 56) rfl w.heap.size 0 n5.toArray rfl rfl (by simpa [HSZ5.out] using f5) (by simpa [HSZ5.out] using info_node) (all_oneCell_toArray HONE5.out) ?_)
            | fail)
          exact bodyPost_ret (v := .agg n5.toArray) (results_blk (q := 2) rfl _ _ w.heap.size n5 _ rfl HF.out.1 hu rfl (by rw [HSZ5.out]; exact info_node)) rfl ⟨by rw [HN5.out, ← HQ1.out], by rw [HQ2.out, HQ3.out]; exact HF.out.2.1, HF.out.2.2⟩
end Go.Proofs.Ytadmaalhhigbeaa
