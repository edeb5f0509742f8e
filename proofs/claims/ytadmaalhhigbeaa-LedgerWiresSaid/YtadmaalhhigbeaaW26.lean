/- Ledger: what the document's Read returns: a case. -/
import Derived.Test.YtadmaalhhigbeaaW24
import Derived.Test.YtadmaalhhigbeaaW21
namespace Go.Proofs.Ytadmaalhhigbeaa
set_option linter.unusedVariables false
set_option linter.unusedSimpArgs false
open Go Go.RowKit OctM BitM

set_option maxRecDepth 100000 in
set_option maxHeartbeats 6400000 in
theorem rlread_3 (base g : Nat) (l : List UInt8) (a : Nat) (e : Int) (w : World) (h : Rr w base g (l.drop a) e) (hgl : g < w.heap.size) (ha : a ≤ l.length) (hm : l.length ≤ 4000) (n0 : (numOut l a e 4).2.2 = 0) (n1 : ¬ ((numOut l a e 4).1 : Int) < 2) (z4 : (lg4 l a e).2.2 = 0) (hc : (lg4 l a e).1 = 0) (h3 : (lg1 l a e).1 = 3) :
    Calls Try.prog 17 #[.pointer (some ⟨g, 0, none⟩)] w (RepReadR w base g l (repOut l a e)) := by
  have hu := Try.underlying26
  obtain ⟨T, hT⟩ : ∃ T, T = repOut l a e := ⟨_, rfl⟩
  rw [← hT]
  have HN := Lib.hid (fun wx (hx : Rr wx base g (l.drop a) e) => rr_numd base g l a e 4 wx hx hm)
  obtain ⟨q0, hq0⟩ : ∃ q, q = numOut l a e 4 := ⟨_, rfl⟩
  obtain ⟨q1, hq1⟩ : ∃ q, q = lg1 l a e := ⟨_, rfl⟩
  have f1 : q1.1 = q0.1 := by rw [hq1, hq0]; rfl
  have f2 : q1.2.1 = q0.2.1 := by rw [hq1, hq0]; rfl
  have f3 : q1.2.2 = (if (q0.1 : Int) < 2 then failOut q0.2.2 3 else q0.2.2) := by rw [hq1, hq0]; rfl
  rw [← hq0] at HN n0 n1
  obtain ⟨k1, hk1⟩ : ∃ k : Int, k = (q0.1 : Int) := ⟨_, rfl⟩
  have hk1' : k1 = (q1.1 : Int) := by rw [hk1, f1]
  rw [← hk1] at HN f3 n1
  have f4 : q1.2.2 = q0.2.2 := by rw [f3, if_neg n1]
  have b1 : (q0.2.2 == 0) = true := by simpa using n0
  have b2 : decide (k1 < 2) = false := decide_eq_false n1
  have HF2 := Lib.hid f2
  have HF4 := Lib.hid f4
  obtain ⟨q2, hq2⟩ : ∃ q, q = lg2 l a e := ⟨_, rfl⟩
  have eq2 : q2 = lstOut l q1.2.1 q1.2.2 0 5 := by rw [hq2, hq1]; rfl
  obtain ⟨k2, hk2⟩ : ∃ k : Int, k = (q2.1 : Int) := ⟨_, rfl⟩
  obtain ⟨q3, hq3⟩ : ∃ q, q = lg3 l a e := ⟨_, rfl⟩
  have eq3 : q3 = lstOut l q2.2.1 q2.2.2 1 1099511627776 := by rw [hq3, hq2]; rfl
  obtain ⟨k3, hk3⟩ : ∃ k : Int, k = (q3.1 : Int) := ⟨_, rfl⟩
  obtain ⟨q4, hq4⟩ : ∃ q, q = lg4 l a e := ⟨_, rfl⟩
  have eq4 : q4 = lstOut l q3.2.1 q3.2.2 0 16 := by rw [hq4, hq3]; rfl
  obtain ⟨k4, hk4⟩ : ∃ k : Int, k = (q4.1 : Int) := ⟨_, rfl⟩
  obtain ⟨q5, hq5⟩ : ∃ q, q = lg5 l a e := ⟨_, rfl⟩
  have eq5 : q5 = lstOut l q4.2.1 q4.2.2 0 1099511627776 := by rw [hq5, hq4]; rfl
  obtain ⟨k5, hk5⟩ : ∃ k : Int, k = (q5.1 : Int) := ⟨_, rfl⟩
  obtain ⟨q8, hq8⟩ : ∃ q, q = lg8 l a e := ⟨_, rfl⟩
  have eq8 : q8 = lstOut l q5.2.1 q5.2.2 1 1099511627776 := by rw [hq8, hq5]; rfl
  obtain ⟨k8, hk8⟩ : ∃ k : Int, k = (q8.1 : Int) := ⟨_, rfl⟩
  obtain ⟨q9, hq9⟩ : ∃ q, q = lg9 l a e := ⟨_, rfl⟩
  have eq9 : q9 = filtOut l q8.2.1 q8.2.2 := by rw [hq9, hq8]; rfl
  obtain ⟨q10, hq10⟩ : ∃ q, q = lg10 l a e := ⟨_, rfl⟩
  have eq10 : q10 = lstOut l q9.2.1 q9.2.2 0 511 := by rw [hq10, hq9]; rfl
  obtain ⟨k10, hk10⟩ : ∃ k : Int, k = (q10.1 : Int) := ⟨_, rfl⟩
  have at8 : q8.2.1 ≤ l.length := by rw [hq8]; exact lg8_at ha
  rw [← hq4] at z4 hc
  have hk10le : k10 ≤ 511 := by rw [hk10, eq10]; exact num_le _ _ _ _ (by omega)
  have hk10ge : 0 ≤ k10 := by rw [hk10]; omega
  obtain ⟨ms, hms⟩ : ∃ m, m = BitVec.ofNat 32 q10.1 := ⟨_, rfl⟩
  have hmsk : ((ms.toNat : Nat) : Int) = k10 := by rw [hms, hk10]; simp; omega
  have hq9n : q9.1.length ≤ 31 := by rw [eq9]; exact filt31 _ _ _
  have hHT0 : T = (if q10.2.2 = 0 then (k1, k2, k3, k4, 0, 0, k5, k8, q9.1, ms) else zrq, q10.2) := by rw [hT, rep_3 (by rw [← hq4]; exact hc) h3, ← hq1, ← hq2, ← hq3, ← hq4, ← hq5, ← hq8, ← hq9, ← hq10, hk1', hk2, hk3, hk4, hk5, hk8, hms]
  have hHT : T = (if q10.2.2 = 0 then (k1, k2, k3, k4, 0, 0, k5, k8, q9.1, ms) else zrq, q10.2.1, q10.2.2) := hHT0
  have b4 : (q4.2.2 == 0) = true := by simpa using z4
  have g4 : (k4 == 0) = true := by rw [hk4]; simpa using hc
  have hk1n : k1 = 3 := by rw [hk1', hq1, h3]; rfl
  have g2 : (k1 == 2) = false := by rw [hk1n]; rfl
  have g3 : (k1 == 3) = true := by rw [hk1n]; rfl
  clear hk1n
  have HT := Lib.hid hHT
  have EQ2 := Lib.hid eq2
  have EQ3 := Lib.hid eq3
  have EQ4 := Lib.hid eq4
  have EQ5 := Lib.hid eq5
  have EQ8 := Lib.hid eq8
  have EQ9 := Lib.hid eq9
  have EQ10 := Lib.hid eq10
  have HK2 := Lib.hid hk2
  have HK3 := Lib.hid hk3
  have HK4 := Lib.hid hk4
  have HK5 := Lib.hid hk5
  have HK8 := Lib.hid hk8
  have HK10 := Lib.hid hk10
  have HK1 := Lib.hid hk1
  clear hHT hHT0 hT hq0 hq1 f1 f2 f3 f4 n0 hk1 hk1' z4 n1 hc h3 hms hq2 eq2 hk2 hq3 eq3 hk3 hq4 eq4 hk4 hq5 eq5 hk5 hq8 eq8 hk8 hq9 eq9 hq10 eq10 hk10
  obtain ⟨W0, hW0⟩ : ∃ W0, W0 = w.alloc (.cells #[.int .i64 0, .int .i64 0, .int .i64 0, .int .i64 0, .int .i64 0, .int .i64 0, .int .i64 0, .int .i64 0, .slice none 0 0, .int .u32 0] 26) := ⟨_, rfl⟩
  have hs0 : RtA w base g l W0 a e := by
    rw [hW0]
    exact ⟨h.row (below_gn (below_a1 _ _)) (fun q e => by cases e), Blk.new w [.int .i64 0, .int .i64 0, .int .i64 0, .int .i64 0, .int .i64 0, .int .i64 0, .int .i64 0, .int .i64 0, .slice none 0 0, .int .u32 0] _, grown_onto (World.grownBy.refl w (some g)) (below_a1 _ _), hgl⟩
  have HS0 := Lib.hid hs0
  have HW0 := Lib.hid hW0
  clear hW0 hs0 h
  go_enter Try.func17, Try.ntmps17
  go_wp2_with fail
  rw [← HW0.out]
  refine (HN.out W0 HS0.out.rr).mono ?_
  rintro x w1 ⟨rfl, hr1, hG1⟩
  have HS1 := Lib.hid (HS0.out.grow hr1 hG1)
  clear hr1 hG1 HS0 HW0 HN
  obtain ⟨W2, hW2⟩ : ∃ W2, W2 = w1.alloc (.cells #[.int .i64 k1, .int .i64 0, .int .i64 0, .int .i64 0, .int .i64 0, .int .i64 0, .int .i64 0, .int .i64 0, .slice none 0 0, .int .u32 0] 26) := ⟨_, rfl⟩
  have hs2 : RtB w base g l w1.heap.size W2 q0.2.1 q0.2.2 [.int .i64 k1, .int .i64 0, .int .i64 0, .int .i64 0, .int .i64 0, .int .i64 0, .int .i64 0, .int .i64 0, .slice none 0 0, .int .u32 0] := by rw [hW2]; exact HS1.out.alloc _
  have HW2 := Lib.hid hW2
  have HS2 := Lib.hid hs2
  have ke := HS1.out.rr.facts.2.1
  have hg1 : g < w1.heap.size := Nat.lt_trans hgl HS1.out.z.lt
  have hlt1 := HS1.out.z.lt
  clear hW2 hs2 HS1
  generalize q0.2.2 = e0 at *
  generalize q0.2.1 = a0 at *
  go_wp2_with fail
  rw [← HW2.out]
  clear HW2 ke hg1 hlt1
  generalize w1.heap.size = b3 at *
  have hs3 := HS2.out
  rw [← HF2.out, ← HF4.out] at hs3
  have HS3 := Lib.hid hs3
  clear hs3 HS2
  refine (HS3.out.num0 hm 5 q2 EQ2.out k2 HK2.out).mono ?_
  rintro x w11 ⟨rfl, hs11, hG11⟩
  have HS11 := Lib.hid hs11
  clear hs11 hG11 HS3
  have ke := HS11.out.A.rr.facts.2.1
  have hn1 := HS11.out.h3
  have hn2 : g ≠ b3 := by omega
  have hn3 : b3 ≠ g := by omega
  have kz0 := HS11.out.c.cell (j := 0) rfl
  have kc1 := HS11.out.c.cell (j := 1) rfl
  have kf1 := HS11.out.c.frozen 1
  have hs12 : RtB w base g l b3 (w11.setCell ⟨b3, 1, none⟩ (.int .i64 k2)) q2.2.1 q2.2.2 [.int .i64 k1, .int .i64 k2, .int .i64 0, .int .i64 0, .int .i64 0, .int .i64 0, .int .i64 0, .int .i64 0, .slice none 0 0, .int .u32 0] := HS11.out.set 1 (.int .i64 k2)
  have HS12 := Lib.hid hs12
  clear hs12
  obtain ⟨W13, hW13⟩ : ∃ W, W = w11.setCell ⟨b3, 1, none⟩ (.int .i64 k2) := ⟨_, rfl⟩
  have hs13 := HS12.out
  rw [← hW13] at hs13
  have HS13 := Lib.hid hs13
  have HW13 := Lib.hid hW13
  clear hs13 hW13
  go_wp2_with fail
  rw [← HW13.out]
  clear HW13 HS11 HS12
  clear ke hn1 hn2 hn3 kz0 kc1 kf1
  refine (HS13.out.num1 hm 1099511627776 q3 EQ3.out k3 HK3.out).mono ?_
  rintro x w14 ⟨rfl, hs14, hG14⟩
  have HS14 := Lib.hid hs14
  clear hs14 hG14 HS13
  have ke := HS14.out.A.rr.facts.2.1
  have hn1 := HS14.out.h3
  have hn2 : g ≠ b3 := by omega
  have hn3 : b3 ≠ g := by omega
  have kz0 := HS14.out.c.cell (j := 0) rfl
  have kc2 := HS14.out.c.cell (j := 2) rfl
  have kf2 := HS14.out.c.frozen 2
  have hs15 : RtB w base g l b3 (w14.setCell ⟨b3, 2, none⟩ (.int .i64 k3)) q3.2.1 q3.2.2 [.int .i64 k1, .int .i64 k2, .int .i64 k3, .int .i64 0, .int .i64 0, .int .i64 0, .int .i64 0, .int .i64 0, .slice none 0 0, .int .u32 0] := HS14.out.set 2 (.int .i64 k3)
  have HS15 := Lib.hid hs15
  clear hs15
  obtain ⟨W16, hW16⟩ : ∃ W, W = w14.setCell ⟨b3, 2, none⟩ (.int .i64 k3) := ⟨_, rfl⟩
  have hs16 := HS15.out
  rw [← hW16] at hs16
  have HS16 := Lib.hid hs16
  have HW16 := Lib.hid hW16
  clear hs16 hW16
  go_wp2_with fail
  rw [← HW16.out]
  clear HW16 HS14 HS15
  clear ke hn1 hn2 hn3 kz0 kc2 kf2
  refine (HS16.out.num0 hm 16 q4 EQ4.out k4 HK4.out).mono ?_
  rintro x w17 ⟨rfl, hs17, hG17⟩
  have HS17 := Lib.hid hs17
  clear hs17 hG17 HS16
  have ke := HS17.out.A.rr.facts.2.1
  have hn1 := HS17.out.h3
  have hn2 : g ≠ b3 := by omega
  have hn3 : b3 ≠ g := by omega
  have kz0 := HS17.out.c.cell (j := 0) rfl
  have kc3 := HS17.out.c.cell (j := 3) rfl
  have kf3 := HS17.out.c.frozen 3
  have hs18 : RtB w base g l b3 (w17.setCell ⟨b3, 3, none⟩ (.int .i64 k4)) q4.2.1 q4.2.2 [.int .i64 k1, .int .i64 k2, .int .i64 k3, .int .i64 k4, .int .i64 0, .int .i64 0, .int .i64 0, .int .i64 0, .slice none 0 0, .int .u32 0] := HS17.out.set 3 (.int .i64 k4)
  have HS18 := Lib.hid hs18
  clear hs18
  generalize q4.2.2 = e4 at *
  generalize q4.2.1 = a4 at *
  obtain ⟨W19, hW19⟩ : ∃ W, W = w17.setCell ⟨b3, 3, none⟩ (.int .i64 k4) := ⟨_, rfl⟩
  have hs19 := HS18.out
  rw [← hW19] at hs19
  have HS19 := Lib.hid hs19
  have HW19 := Lib.hid hW19
  clear hs19 hW19
  go_wp2_with fail
  rw [← HW19.out]
  clear HW19 HS17 HS18
  clear ke hn1 hn2 hn3 kz0 kc3 kf3
  refine (HS19.out.num0 hm 1099511627776 q5 EQ5.out k5 HK5.out).mono ?_
  rintro x w20 ⟨rfl, hs20, hG20⟩
  have HS20 := Lib.hid hs20
  clear hs20 hG20 HS19
  have ke := HS20.out.A.rr.facts.2.1
  have hn1 := HS20.out.h3
  have hn2 : g ≠ b3 := by omega
  have hn3 : b3 ≠ g := by omega
  have kz0 := HS20.out.c.cell (j := 0) rfl
  have kc6 := HS20.out.c.cell (j := 6) rfl
  have kf6 := HS20.out.c.frozen 6
  have hs21 : RtB w base g l b3 (w20.setCell ⟨b3, 6, none⟩ (.int .i64 k5)) q5.2.1 q5.2.2 [.int .i64 k1, .int .i64 k2, .int .i64 k3, .int .i64 k4, .int .i64 0, .int .i64 0, .int .i64 k5, .int .i64 0, .slice none 0 0, .int .u32 0] := HS20.out.set 6 (.int .i64 k5)
  have HS21 := Lib.hid hs21
  clear hs21
  obtain ⟨W22, hW22⟩ : ∃ W, W = w20.setCell ⟨b3, 6, none⟩ (.int .i64 k5) := ⟨_, rfl⟩
  have hs22 := HS21.out
  rw [← hW22] at hs22
  have HS22 := Lib.hid hs22
  have HW22 := Lib.hid hW22
  clear hs22 hW22
  go_wp2_with fail
  rw [← HW22.out]
  clear HW22 HS20 HS21
  clear ke hn1 hn2 hn3 kz0 kc6 kf6
  refine (HS22.out.num1 hm 1099511627776 q8 EQ8.out k8 HK8.out).mono ?_
  rintro x w23 ⟨rfl, hs23, hG23⟩
  have HS23 := Lib.hid hs23
  clear hs23 hG23 HS22
  have ke := HS23.out.A.rr.facts.2.1
  have hn1 := HS23.out.h3
  have hn2 : g ≠ b3 := by omega
  have hn3 : b3 ≠ g := by omega
  have kz0 := HS23.out.c.cell (j := 0) rfl
  have kc7 := HS23.out.c.cell (j := 7) rfl
  have kf7 := HS23.out.c.frozen 7
  have hs24 : RtB w base g l b3 (w23.setCell ⟨b3, 7, none⟩ (.int .i64 k8)) q8.2.1 q8.2.2 [.int .i64 k1, .int .i64 k2, .int .i64 k3, .int .i64 k4, .int .i64 0, .int .i64 0, .int .i64 k5, .int .i64 k8, .slice none 0 0, .int .u32 0] := HS23.out.set 7 (.int .i64 k8)
  have HS24 := Lib.hid hs24
  clear hs24
  obtain ⟨W25, hW25⟩ : ∃ W, W = w23.setCell ⟨b3, 7, none⟩ (.int .i64 k8) := ⟨_, rfl⟩
  have hs25 := HS24.out
  rw [← hW25] at hs25
  have HS25 := Lib.hid hs25
  have HW25 := Lib.hid hW25
  clear hs25 hW25
  go_wp2_with fail
  rw [← HW25.out]
  clear HW25 HS23 HS24
  clear ke hn1 hn2 hn3 kz0 kc7 kf7
  have hrf := rr_filter base g l q8.2.1 q8.2.2 W25 HS25.out.A.rr at8 hm
  rw [← EQ9.out] at hrf
  refine hrf.mono ?_
  rintro x w30 ⟨⟨AF, cF, rfl, hrow⟩, hr30, hG30⟩
  clear hrf
  have HS30 := Lib.hid (HS25.out.grow hr30 hG30)
  have hfar : ∀ ad, AF = some ad → b3 < ad.block := fun ad e => Nat.lt_of_lt_of_le HS25.out.c.lt (World.ownsRow.lt hrow ad.block (by rw [e]; rfl)).1
  have hcap := row_capm hrow
  have hsee := row_sees hrow
  clear hrow hr30 hG30 HS25
  obtain ⟨n9, hn9⟩ : ∃ n, n = q9.1.length := ⟨_, rfl⟩
  rw [← hn9] at hcap hq9n ⊢
  have HN9 := Lib.hid hn9
  clear hn9
  have ke := HS30.out.A.rr.facts.2.1
  have hn1 := HS30.out.h3
  have hn2 : g ≠ b3 := by omega
  have hn3 : b3 ≠ g := by omega
  have kz0 := HS30.out.c.cell (j := 0) rfl
  have kc8 := HS30.out.c.cell (j := 8) rfl
  have kf8 := HS30.out.c.frozen 8
  have hs26 : RtB w base g l b3 (w30.setCell ⟨b3, 8, none⟩ (.slice AF n9 cF)) q9.2.1 q9.2.2 [.int .i64 k1, .int .i64 k2, .int .i64 k3, .int .i64 k4, .int .i64 0, .int .i64 0, .int .i64 k5, .int .i64 k8, .slice AF n9 cF, .int .u32 0] := HS30.out.set 8 (.slice AF n9 cF)
  have HS26 := Lib.hid hs26
  clear hs26
  obtain ⟨W27, hW27⟩ : ∃ W, W = w30.setCell ⟨b3, 8, none⟩ (.slice AF n9 cF) := ⟨_, rfl⟩
  have hs27 := HS26.out
  rw [← hW27] at hs27
  have HS27 := Lib.hid hs27
  have HW27 := Lib.hid hW27
  clear hs27 hW27
  have HSEE : Hid (Sees W27 W27.heap.size AF (ncs q9.1)) := Lib.hid (by
    rw [HW27.out]
    exact hsee.grown2 (grown_sets b3 [.slice AF n9 cF] 8 w30) (fun ad e => by have := hfar ad e; omega))
  have HFAR := Lib.hid hfar
  clear hsee hfar
  go_wp2_with fail
  rw [← HW27.out]
  clear HW27 HS30 HS26
  clear ke hn1 hn2 hn3 kz0 kc8 kf8
  refine (HS27.out.num0 hm 511 q10 EQ10.out k10 HK10.out).mono ?_
  rintro x w28 ⟨rfl, hs28, hG28⟩
  have HS28 := Lib.hid hs28
  have hb3g : g < b3 := by have := HS27.out.h3; omega
  have HSEE2 := Lib.hid (HSEE.out.grown2 hG28 (fun ad e => by have := HFAR.out ad e; omega))
  clear hs28 hG28 HS27 HSEE
  have ke := HS28.out.A.rr.facts.2.1
  have hn1 := HS28.out.h3
  have hn2 : g ≠ b3 := by omega
  have hn3 : b3 ≠ g := by omega
  have kz0 := HS28.out.c.cell (j := 0) rfl
  have kc9 := HS28.out.c.cell (j := 9) rfl
  have kf9 := HS28.out.c.frozen 9
  have hs29 : RtB w base g l b3 (w28.setCell ⟨b3, 9, none⟩ (.int .u32 (ms.toNat : Int))) q10.2.1 q10.2.2 [.int .i64 k1, .int .i64 k2, .int .i64 k3, .int .i64 k4, .int .i64 0, .int .i64 0, .int .i64 k5, .int .i64 k8, .slice AF n9 cF, .int .u32 (ms.toNat : Int)] := HS28.out.set 9 (.int .u32 (ms.toNat : Int))
  have HS29 := Lib.hid hs29
  clear hs29
  have hok : okRp ((w28.setCell ⟨b3, 9, none⟩ (.int .u32 (ms.toNat : Int))).setCells w.heap.size 0 (rpc ⟨k1, k2, k3, k4, 0, 0, k5, k8, AF, n9, cF, q9.1, ms⟩)) ⟨k1, k2, k3, k4, 0, 0, k5, k8, AF, n9, cF, q9.1, ms⟩ := by
    have h0 := (HSEE2.out.grown2 (grown_sets b3 [.int .u32 (ms.toNat : Int)] 9 w28) (fun ad e => by have := HFAR.out ad e; omega)).grown2 (grown_sets w.heap.size (rpc ⟨k1, k2, k3, k4, 0, 0, k5, k8, AF, n9, cF, q9.1, ms⟩) 0 (w28.setCell ⟨b3, 9, none⟩ (.int .u32 (ms.toNat : Int)))) (fun ad e => by have := HFAR.out ad e; omega)
    exact ⟨HN9.out.symm, hcap.1, hcap.2, h0⟩
  have hfarw : ∀ ad, AF = some ad → w.heap.size ≤ ad.block := fun ad e => by have := HFAR.out ad e; omega
  have HOK := Lib.hid hok
  have HFARW := Lib.hid hfarw
  have HMSK := Lib.hid hmsk
  clear hok hfarw HSEE2
  generalize q10.2.2 = eE at *
  generalize q10.2.1 = aE at *
  by_cases hz : eE = 0
  · have b0 : (eE != 0) = false := by simp [hz]
    have hTT : T = (rab ⟨k1, k2, k3, k4, 0, 0, k5, k8, AF, n9, cF, q9.1, ms⟩, aE, eE) := by rw [HT.out, if_pos hz]; rfl
    have hfin := HS29.out.A.fin ⟨k1, k2, k3, k4, 0, 0, k5, k8, AF, n9, cF, q9.1, ms⟩ T hTT HOK.out hq9n HFARW.out
    have honr := all_oneCell_toArray (rpc_one ⟨k1, k2, k3, k4, 0, 0, k5, k8, AF, n9, cF, q9.1, ms⟩)
    have hlnr := rpc_len ⟨k1, k2, k3, k4, 0, 0, k5, k8, AF, n9, cF, q9.1, ms⟩
    obtain ⟨cr, hcr⟩ : ∃ cr, cr = rpc ⟨k1, k2, k3, k4, 0, 0, k5, k8, AF, n9, cF, q9.1, ms⟩ := ⟨_, rfl⟩
    have RG : (w28.setCell ⟨b3, 9, none⟩ (.int .u32 (ms.toNat : Int))).rangeAt b3 0 cr := by rw [hcr]; exact HS29.out.c.range 0 (rpc ⟨k1, k2, k3, k4, 0, 0, k5, k8, AF, n9, cF, q9.1, ms⟩) rfl
    rw [← hcr] at hfin honr hlnr
    obtain ⟨W9, hW9⟩ : ∃ W9, W9 = (w28.setCell ⟨b3, 9, none⟩ (.int .u32 (ms.toNat : Int))).setCells w.heap.size 0 cr := ⟨_, rfl⟩
    rw [← hW9] at hfin
    have HFIN := Lib.hid hfin.1
    have FIN := Lib.hid hfin.2.1
    have TH := hfin.2.2
    have HW9 := Lib.hid hW9
    have HLN := Lib.hid hlnr
    have HCR := Lib.hid hcr
    have HONE := Lib.hid honr
    clear hfin hTT hW9 hcr honr hlnr
    rw [HMSK.out] at HW9 TH RG
    go_wp2_with (first
      | (refine wpList_load_mid rfl 26 (.tmp 3) rfl b3 0 rfl cr _ RG hu rfl (by rw [HLN.out]; exact info_rp) ?_
         simp only [Act.put, List.setIfInBounds_toArray, List.set_cons_zero, List.set_cons_succ])
      | (refine wpList_store_mid rfl 26 (.tmp 2) (.tmp 69) rfl w.heap.size 0 cr.toArray rfl rfl (by simpa [HLN.out] using TH) (by simpa [HLN.out] using info_rp) HONE.out ?_
         rw [← HW9.out])
      | fail)
    exact bodyPost_ret (v := .agg cr.toArray) (results_blk (q := 2) rfl _ _ w.heap.size cr _ rfl FIN.out hu rfl (by rw [HLN.out]; exact info_rp)) rfl HFIN.out
  · have b0 : (eE != 0) = true := by simp [hz]
    have hTT : T = (rab zrp, aE, eE) := by rw [HT.out, if_neg hz]; rfl
    have hfin := HS29.out.A.fin zrp T hTT (okRp.zero _) (by simp [zrp]) (fun ad e => by cases e)
    have honr := all_oneCell_toArray (rpc_one zrp)
    have hlnr := rpc_len zrp
    obtain ⟨cr, hcr⟩ : ∃ cr, cr = rpc zrp := ⟨_, rfl⟩
    rw [← hcr] at hfin honr hlnr
    obtain ⟨W9, hW9⟩ : ∃ W9, W9 = (w28.setCell ⟨b3, 9, none⟩ (.int .u32 (ms.toNat : Int))).setCells w.heap.size 0 cr := ⟨_, rfl⟩
    rw [← hW9] at hfin
    have HFIN := Lib.hid hfin.1
    have FIN := Lib.hid hfin.2.1
    have TH := hfin.2.2
    have HW9 := Lib.hid hW9
    have HLN := Lib.hid hlnr
    have HCR := Lib.hid hcr
    have HONE := Lib.hid honr
    clear hfin hTT hW9 hcr honr hlnr
    rw [HMSK.out] at HW9 TH
    go_wp2_with (first
      | (refine wpList_store_mid rfl 26 (.tmp 2) (.tmp 68) rfl w.heap.size 0 cr.toArray rfl (by rw [HCR.out]; rfl) (by simpa [HLN.out] using TH) (by simpa [HLN.out] using info_rp) HONE.out ?_
         rw [← HW9.out])
      | fail)
    exact bodyPost_ret (v := .agg cr.toArray) (results_blk (q := 2) rfl _ _ w.heap.size cr _ rfl FIN.out hu rfl (by rw [HLN.out]; exact info_rp)) rfl HFIN.out
end Go.Proofs.Ytadmaalhhigbeaa
