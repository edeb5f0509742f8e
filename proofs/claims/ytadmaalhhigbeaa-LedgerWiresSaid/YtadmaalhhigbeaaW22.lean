/- Ledger: what the program's Read returns, case by case. -/
import Derived.Test.YtadmaalhhigbeaaW19
import Derived.Test.YtadmaalhhigbeaaW21
namespace Go.Proofs.Ytadmaalhhigbeaa
set_option linter.unusedVariables false
set_option linter.unusedSimpArgs false
open Go Go.RowKit OctM BitM

set_option maxRecDepth 100000 in
set_option maxHeartbeats 6400000 in
theorem lread_3 (base g : Nat) (l : List UInt8) (a : Nat) (e : Int) (w : World) (h : Rd w base g l a e) (ha : a ≤ l.length) (hm : l.length ≤ 4000) (hc : (lg4 l a e).1 = 0) (h3 : (lg1 l a e).1 = 3) :
    Calls Try.prog 16 #[.pointer (some ⟨g, 0, none⟩)] w (RepRead w base g l (repOut l a e)) := by
  have hu := Try.underlying26
  obtain ⟨T, hT⟩ : ∃ T, T = repOut l a e := ⟨_, rfl⟩
  rw [← hT]
  obtain ⟨q1, hq1⟩ : ∃ q, q = lg1 l a e := ⟨_, rfl⟩
  have eq1 : q1 = lstOut l a e 2 4 := by rw [hq1]; rfl
  obtain ⟨k1, hk1⟩ : ∃ k : Int, k = (q1.1 : Int) := ⟨_, rfl⟩
  have at1 : q1.2.1 ≤ l.length := by rw [hq1]; exact lg1_at ha
  obtain ⟨q2, hq2⟩ : ∃ q, q = lg2 l a e := ⟨_, rfl⟩
  have eq2 : q2 = lstOut l q1.2.1 q1.2.2 0 5 := by rw [hq2, hq1]; rfl
  obtain ⟨k2, hk2⟩ : ∃ k : Int, k = (q2.1 : Int) := ⟨_, rfl⟩
  have at2 : q2.2.1 ≤ l.length := by rw [hq2]; exact lg2_at ha
  obtain ⟨q3, hq3⟩ : ∃ q, q = lg3 l a e := ⟨_, rfl⟩
  have eq3 : q3 = lstOut l q2.2.1 q2.2.2 1 1099511627776 := by rw [hq3, hq2]; rfl
  obtain ⟨k3, hk3⟩ : ∃ k : Int, k = (q3.1 : Int) := ⟨_, rfl⟩
  have at3 : q3.2.1 ≤ l.length := by rw [hq3]; exact lg3_at ha
  obtain ⟨q4, hq4⟩ : ∃ q, q = lg4 l a e := ⟨_, rfl⟩
  have eq4 : q4 = lstOut l q3.2.1 q3.2.2 0 16 := by rw [hq4, hq3]; rfl
  obtain ⟨k4, hk4⟩ : ∃ k : Int, k = (q4.1 : Int) := ⟨_, rfl⟩
  have at4 : q4.2.1 ≤ l.length := by rw [hq4]; exact lg4_at ha
  obtain ⟨q5, hq5⟩ : ∃ q, q = lg5 l a e := ⟨_, rfl⟩
  have eq5 : q5 = lstOut l q4.2.1 q4.2.2 0 1099511627776 := by rw [hq5, hq4]; rfl
  obtain ⟨k5, hk5⟩ : ∃ k : Int, k = (q5.1 : Int) := ⟨_, rfl⟩
  have at5 : q5.2.1 ≤ l.length := by rw [hq5]; exact lg5_at ha
  obtain ⟨q6, hq6⟩ : ∃ q, q = lg6 l a e := ⟨_, rfl⟩
  have eq6 : q6 = lstOut l q5.2.1 q5.2.2 1 1073741823 := by rw [hq6, hq5]; rfl
  obtain ⟨k6, hk6⟩ : ∃ k : Int, k = (q6.1 : Int) := ⟨_, rfl⟩
  have at6 : q6.2.1 ≤ l.length := by rw [hq6]; exact lg6_at ha
  obtain ⟨q7, hq7⟩ : ∃ q, q = lg7 l a e := ⟨_, rfl⟩
  have eq7 : q7 = lstOut l q6.2.1 q6.2.2 1 1099511627776 := by rw [hq7, hq6]; rfl
  obtain ⟨k7, hk7⟩ : ∃ k : Int, k = (q7.1 : Int) := ⟨_, rfl⟩
  have at7 : q7.2.1 ≤ l.length := by rw [hq7]; exact lg7_at ha
  obtain ⟨q8, hq8⟩ : ∃ q, q = lg8 l a e := ⟨_, rfl⟩
  have eq8 : q8 = lstOut l q5.2.1 q5.2.2 1 1099511627776 := by rw [hq8, hq5]; rfl
  obtain ⟨k8, hk8⟩ : ∃ k : Int, k = (q8.1 : Int) := ⟨_, rfl⟩
  have at8 : q8.2.1 ≤ l.length := by rw [hq8]; exact lg8_at ha
  obtain ⟨q9, hq9⟩ : ∃ q, q = lg9 l a e := ⟨_, rfl⟩
  have eq9 : q9 = filtOut l q8.2.1 q8.2.2 := by rw [hq9, hq8]; rfl
  have at9 : q9.2.1 ≤ l.length := by rw [hq9]; exact lg9_at ha
  obtain ⟨q10, hq10⟩ : ∃ q, q = lg10 l a e := ⟨_, rfl⟩
  have eq10 : q10 = lstOut l q9.2.1 q9.2.2 0 511 := by rw [hq10, hq9]; rfl
  obtain ⟨k10, hk10⟩ : ∃ k : Int, k = (q10.1 : Int) := ⟨_, rfl⟩
  have at10 : q10.2.1 ≤ l.length := by rw [hq10]; exact lg10_at ha
  have HE : ∀ {p : Nat × Nat × Int}, p = lg4 l a e → True := fun _ => trivial
  obtain ⟨W0, hW0⟩ : ∃ W0, W0 = (w.alloc (.cells #[.pointer (some ⟨g, 0, none⟩)] 34)).alloc (.cells #[.int .i64 0, .int .i64 0, .int .i64 0, .int .i64 0, .int .i64 0, .int .i64 0, .int .i64 0, .int .i64 0, .slice none 0 0, .int .u32 0] 26) := ⟨_, rfl⟩
  have hs0 : RsA w base g l W0 a e := by
    have hb := below_a2 w (.cells #[.pointer (some ⟨g, 0, none⟩)] 34) (.cells #[.int .i64 0, .int .i64 0, .int .i64 0, .int .i64 0, .int .i64 0, .int .i64 0, .int .i64 0, .int .i64 0, .slice none 0 0, .int .u32 0] 26)
    have hz := Blk.new (w.alloc (.cells #[.pointer (some ⟨g, 0, none⟩)] 34)) [.int .i64 0, .int .i64 0, .int .i64 0, .int .i64 0, .int .i64 0, .int .i64 0, .int .i64 0, .int .i64 0, .slice none 0 0, .int .u32 0] 26
    rw [show (w.alloc (.cells #[.pointer (some ⟨g, 0, none⟩)] 34)).heap.size = w.heap.size + 1 by simp] at hz
    rw [hW0]
    exact ⟨h.later hb, (Blk.new w [.pointer (some ⟨g, 0, none⟩)] _).alloc _, hz, grown_onto (World.grownBy.refl w (some g)) hb, h.block.2⟩
  have HS0 := Lib.hid hs0
  have HW0 := Lib.hid hW0
  clear hW0 hs0 h HE
  rw [← hq4] at hc
  rw [← hq1] at h3
  have hk10le : k10 ≤ 511 := by rw [hk10, eq10]; exact num_le _ _ _ _ (by omega)
  have hk10ge : 0 ≤ k10 := by rw [hk10]; omega
  obtain ⟨ms, hms⟩ : ∃ m, m = BitVec.ofNat 32 q10.1 := ⟨_, rfl⟩
  have hmsk : ((ms.toNat : Nat) : Int) = k10 := by rw [hms, hk10]; simp; omega
  have hHT0 : T = (if q10.2.2 = 0 then (k1, k2, k3, k4, 0, 0, k5, k8, q9.1, ms) else zrq, q10.2) := by rw [hT, rep_3 (by rw [← hq4]; exact hc) (by rw [← hq1]; exact h3), ← hq1, ← hq2, ← hq3, ← hq4, ← hq5, ← hq8, ← hq9, ← hq10, hk1, hk2, hk3, hk4, hk5, hk8, hms]
  have hHT : T = (if q10.2.2 = 0 then (k1, k2, k3, k4, 0, 0, k5, k8, q9.1, ms) else zrq, q10.2.1, q10.2.2) := hHT0
  have g4 : (k4 == 0) = true := by rw [hk4]; simpa using hc
  have g2 : (k1 == 2) = false := by rw [hk1]; simp; omega
  have g3 : (k1 == 3) = true := by rw [hk1, h3]; rfl
  have HT := Lib.hid hHT
  have hq9n : q9.1.length ≤ 31 := by rw [eq9]; exact filt31 _ _ _
  clear hHT hHT0 hq1 hq2 hq3 hq4 hq5 hq6 hq7 hq8 hq9 hq10 hT
  have EQ1 := Lib.hid eq1
  have EQ2 := Lib.hid eq2
  have EQ3 := Lib.hid eq3
  have EQ4 := Lib.hid eq4
  have EQ5 := Lib.hid eq5
  have EQ6 := Lib.hid eq6
  have EQ7 := Lib.hid eq7
  have EQ8 := Lib.hid eq8
  have EQ9 := Lib.hid eq9
  have EQ10 := Lib.hid eq10
  have HK1 := Lib.hid hk1
  have HK2 := Lib.hid hk2
  have HK3 := Lib.hid hk3
  have HK4 := Lib.hid hk4
  have HK5 := Lib.hid hk5
  have HK6 := Lib.hid hk6
  have HK7 := Lib.hid hk7
  have HK8 := Lib.hid hk8
  have HK10 := Lib.hid hk10
  clear eq1 eq2 eq3 eq4 eq5 eq6 eq7 eq8 eq9 eq10 hk1 hk2 hk3 hk4 hk5 hk6 hk7 hk8 hk10
  go_enter Try.func16, Try.ntmps16
  go_wp2_with fail
  rw [← HW0.out]
  refine (HS0.out.num ha hm 2 4 q1 EQ1.out k1 HK1.out).mono ?_
  rintro x w1 ⟨rfl, hs1⟩
  have HS1 := Lib.hid hs1
  clear hs1 HS0
  go_wp2_with fail
  refine (HS1.out.num at1 hm 0 5 q2 EQ2.out k2 HK2.out).mono ?_
  rintro x w2 ⟨rfl, hs2⟩
  have HS2 := Lib.hid hs2
  clear hs2 HS1
  go_wp2_with fail
  refine (HS2.out.num at2 hm 1 1099511627776 q3 EQ3.out k3 HK3.out).mono ?_
  rintro x w3 ⟨rfl, hs3⟩
  have HS3 := Lib.hid hs3
  clear hs3 HS2
  go_wp2_with fail
  refine (HS3.out.num at3 hm 0 16 q4 EQ4.out k4 HK4.out).mono ?_
  rintro x w4 ⟨rfl, hs4⟩
  have HS4 := Lib.hid hs4
  clear hs4 HS3
  obtain ⟨W5, hW5⟩ : ∃ W5, W5 = w4.alloc (.cells #[.int .i64 k1, .int .i64 k2, .int .i64 k3, .int .i64 k4, .int .i64 0, .int .i64 0, .int .i64 0, .int .i64 0, .slice none 0 0, .int .u32 0] 26) := ⟨_, rfl⟩
  have hs5 : RsB w base g l w4.heap.size W5 q4.2.1 q4.2.2 [.int .i64 k1, .int .i64 k2, .int .i64 k3, .int .i64 k4, .int .i64 0, .int .i64 0, .int .i64 0, .int .i64 0, .slice none 0 0, .int .u32 0] := by rw [hW5]; exact HS4.out.alloc _
  have HW5 := Lib.hid hW5
  have HS5 := Lib.hid hs5
  have kx := HS4.out.x.cell (j := 0) rfl
  have hlt4 := HS4.out.x.lt
  clear hW5 hs5 HS4
  go_wp2_with fail
  rw [← HW5.out]
  clear HW5 kx hlt4
  generalize w4.heap.size = b4 at *
  refine (HS5.out.num at4 hm 0 1099511627776 q5 EQ5.out k5 HK5.out).mono ?_
  rintro x w6 ⟨rfl, hs6, _⟩
  have HS6 := Lib.hid hs6
  clear hs6 HS5
  have kx := HS6.out.A.x.cell (j := 0) rfl
  have kz0 := HS6.out.c.cell (j := 0) rfl
  have hn1 := HS6.out.h4
  have hn2 : w.heap.size ≠ b4 := by omega
  have hn3 : b4 ≠ w.heap.size := by omega
  have kc6 := HS6.out.c.cell (j := 6) rfl
  have kf6 := HS6.out.c.frozen 6
  obtain ⟨W7, hW7⟩ : ∃ W, W = w6.setCell ⟨b4, 6, none⟩ (.int .i64 k5) := ⟨_, rfl⟩
  have hs7 : RsB w base g l b4 W7 q5.2.1 q5.2.2 [.int .i64 k1, .int .i64 k2, .int .i64 k3, .int .i64 k4, .int .i64 0, .int .i64 0, .int .i64 k5, .int .i64 0, .slice none 0 0, .int .u32 0] := by rw [hW7]; exact HS6.out.set 6 (.int .i64 k5)
  have HS7 := Lib.hid hs7
  have HW7 := Lib.hid hW7
  clear hs7 hW7
  go_wp2_with fail
  rw [← HW7.out]
  clear HW7
  clear kx kz0 hn1 hn2 hn3 kc6 kf6 HS6
  refine (HS7.out.num at5 hm 1 1099511627776 q8 EQ8.out k8 HK8.out).mono ?_
  rintro x w8 ⟨rfl, hs8, _⟩
  have HS8 := Lib.hid hs8
  clear hs8 HS7
  have kx := HS8.out.A.x.cell (j := 0) rfl
  have kz0 := HS8.out.c.cell (j := 0) rfl
  have hn1 := HS8.out.h4
  have hn2 : w.heap.size ≠ b4 := by omega
  have hn3 : b4 ≠ w.heap.size := by omega
  have kc7 := HS8.out.c.cell (j := 7) rfl
  have kf7 := HS8.out.c.frozen 7
  obtain ⟨W9, hW9⟩ : ∃ W, W = w8.setCell ⟨b4, 7, none⟩ (.int .i64 k8) := ⟨_, rfl⟩
  have hs9 : RsB w base g l b4 W9 q8.2.1 q8.2.2 [.int .i64 k1, .int .i64 k2, .int .i64 k3, .int .i64 k4, .int .i64 0, .int .i64 0, .int .i64 k5, .int .i64 k8, .slice none 0 0, .int .u32 0] := by rw [hW9]; exact HS8.out.set 7 (.int .i64 k8)
  have HS9 := Lib.hid hs9
  have HW9 := Lib.hid hW9
  clear hs9 hW9
  go_wp2_with fail
  rw [← HW9.out]
  clear HW9 kx kz0 hn1 hn2 hn3 kc7 kf7 HS8
  have hrf := rd_filter base g l q8.2.1 q8.2.2 W9 HS9.out.A.rd at8 hm
  rw [← EQ9.out] at hrf
  refine hrf.mono ?_
  rintro x w10 ⟨⟨AF, cF, rfl, hrow⟩, hr10, hG10⟩
  clear hrf
  have HS10 := Lib.hid (HS9.out.grow hr10 hG10)
  have hfar : ∀ ad, AF = some ad → b4 < ad.block := fun ad e => Nat.lt_of_lt_of_le HS9.out.c.lt (World.ownsRow.lt hrow ad.block (by rw [e]; rfl)).1
  have hcap := row_capm hrow
  have hsee := row_sees hrow
  clear hrow hr10 hG10 HS9
  have kx := HS10.out.A.x.cell (j := 0) rfl
  have kz0 := HS10.out.c.cell (j := 0) rfl
  have hn1 := HS10.out.h4
  have hn2 : w.heap.size ≠ b4 := by omega
  have hn3 : b4 ≠ w.heap.size := by omega
  have kc8 := HS10.out.c.cell (j := 8) rfl
  have kf8 := HS10.out.c.frozen 8
  obtain ⟨W11, hW11⟩ : ∃ W, W = w10.setCell ⟨b4, 8, none⟩ (.slice AF q9.1.length cF) := ⟨_, rfl⟩
  have hs11 : RsB w base g l b4 W11 q9.2.1 q9.2.2 [.int .i64 k1, .int .i64 k2, .int .i64 k3, .int .i64 k4, .int .i64 0, .int .i64 0, .int .i64 k5, .int .i64 k8, .slice AF q9.1.length cF, .int .u32 0] := by rw [hW11]; exact HS10.out.set 8 (.slice AF q9.1.length cF)
  have HS11 := Lib.hid hs11
  have HW11 := Lib.hid hW11
  clear hs11 hW11
  have hsee11 : Sees W11 W11.heap.size AF (ncs q9.1) := by
    rw [HW11.out]
    exact hsee.grown2 (grown_sets b4 [.slice AF q9.1.length cF] 8 w10) (fun ad e => by have := hfar ad e; omega)
  have HSEE11 := Lib.hid hsee11
  have HFAR := Lib.hid hfar
  clear hsee hsee11 hfar
  obtain ⟨n9, hn9⟩ : ∃ n, n = q9.1.length := ⟨_, rfl⟩
  rw [← hn9] at HS11 HW11 hcap hq9n ⊢
  have HN9 := Lib.hid hn9
  clear hn9
  go_wp2_with fail
  rw [← HW11.out]
  clear HW11 kx kz0 hn1 hn2 hn3 kc8 kf8 HS10
  refine (HS11.out.num at9 hm 0 511 q10 EQ10.out k10 HK10.out).mono ?_
  rintro x w12 ⟨rfl, hs12, hG12⟩
  have HS12 := Lib.hid hs12
  have hb4g : g < b4 := by have := HS11.out.h4; have := HS11.out.A.hg; omega
  have HSEE12 := Lib.hid (HSEE11.out.grown2 hG12 (fun ad e => by have := HFAR.out ad e; omega))
  clear hs12 hG12 HS11 HSEE11
  have kx := HS12.out.A.x.cell (j := 0) rfl
  have kz0 := HS12.out.c.cell (j := 0) rfl
  have hn1 := HS12.out.h4
  have hn2 : w.heap.size ≠ b4 := by omega
  have hn3 : b4 ≠ w.heap.size := by omega
  have kc9 := HS12.out.c.cell (j := 9) rfl
  have kf9 := HS12.out.c.frozen 9
  obtain ⟨W13, hW13⟩ : ∃ W, W = w12.setCell ⟨b4, 9, none⟩ (.int .u32 (ms.toNat : Int)) := ⟨_, rfl⟩
  have hs13 : RsB w base g l b4 W13 q10.2.1 q10.2.2 [.int .i64 k1, .int .i64 k2, .int .i64 k3, .int .i64 k4, .int .i64 0, .int .i64 0, .int .i64 k5, .int .i64 k8, .slice AF n9 cF, .int .u32 (ms.toNat : Int)] := by rw [hW13]; exact HS12.out.set 9 (.int .u32 (ms.toNat : Int))
  have HS13 := Lib.hid hs13
  have HW13 := Lib.hid hW13
  clear hs13 hW13
  have HSEE13 : Hid (Sees W13 W13.heap.size AF (ncs q9.1)) := Lib.hid (by
    rw [HW13.out]
    exact HSEE12.out.grown2 (grown_sets b4 [.int .u32 (ms.toNat : Int)] 9 w12) (fun ad e => by have := HFAR.out ad e; omega))
  rw [hmsk] at HW13
  go_wp2_with fail
  rw [← HW13.out]
  rw [← hmsk] at HW13
  clear HW13 kx kz0 kc9 kf9 HS12 HSEE12
  have hok : okRp (W13.setCells (w.heap.size + 1) 0 (rpc ⟨k1, k2, k3, k4, 0, 0, k5, k8, AF, n9, cF, q9.1, ms⟩)) ⟨k1, k2, k3, k4, 0, 0, k5, k8, AF, n9, cF, q9.1, ms⟩ := by
    have h0 := HSEE13.out.grown2 (grown_sets (w.heap.size + 1) (rpc ⟨k1, k2, k3, k4, 0, 0, k5, k8, AF, n9, cF, q9.1, ms⟩) 0 W13) (fun ad e => by have := HFAR.out ad e; omega)
    exact ⟨HN9.out.symm, hcap.1, hcap.2, h0⟩
  have hfarw : ∀ ad, AF = some ad → w.heap.size ≤ ad.block := fun ad e => by have := HFAR.out ad e; omega
  have HOK := Lib.hid hok
  have HFARW := Lib.hid hfarw
  clear hok hfarw
  generalize q10.2.2 = eE at *
  generalize q10.2.1 = aE at *
  have her := rd_err base g l aE eE W13 HS13.out.A.rd
  have HER := Lib.hid her
  clear her
  refine HER.out.mono ?_
  rintro x wE ⟨rfl, rfl⟩
  by_cases hz : eE = 0
  · have b0 : (eE != 0) = false := by simp [hz]
    have hTT : T = (rab ⟨k1, k2, k3, k4, 0, 0, k5, k8, AF, n9, cF, q9.1, ms⟩, aE, eE) := by rw [HT.out, if_pos hz]; rfl
    have hfin := HS13.out.A.fin ⟨k1, k2, k3, k4, 0, 0, k5, k8, AF, n9, cF, q9.1, ms⟩ T hTT HOK.out hq9n HFARW.out
    have honr := all_oneCell_toArray (rpc_one ⟨k1, k2, k3, k4, 0, 0, k5, k8, AF, n9, cF, q9.1, ms⟩)
    have hlnr := rpc_len ⟨k1, k2, k3, k4, 0, 0, k5, k8, AF, n9, cF, q9.1, ms⟩
    obtain ⟨cr, hcr⟩ : ∃ cr, cr = rpc ⟨k1, k2, k3, k4, 0, 0, k5, k8, AF, n9, cF, q9.1, ms⟩ := ⟨_, rfl⟩
    have RG : W13.rangeAt b4 0 cr := by rw [hcr]; exact HS13.out.c.range 0 (rpc ⟨k1, k2, k3, k4, 0, 0, k5, k8, AF, n9, cF, q9.1, ms⟩) rfl
    rw [← hcr] at hfin honr hlnr
    obtain ⟨W9, hW9⟩ : ∃ W9, W9 = W13.setCells (w.heap.size + 1) 0 cr := ⟨_, rfl⟩
    rw [← hW9] at hfin
    have HFIN := Lib.hid hfin.1
    have FIN := Lib.hid hfin.2.1
    have TH := hfin.2.2
    have HW9 := Lib.hid hW9
    have HLN := Lib.hid hlnr
    have HCR := Lib.hid hcr
    have HONE := Lib.hid honr
    clear hfin hTT hz hW9 hcr honr hlnr
    go_wp2_with (first
      | (refine wpList_load_mid rfl 26 (.tmp 4) rfl b4 0 rfl cr _ RG hu rfl (by rw [HLN.out]; exact info_rp) ?_
         simp only [Act.put, List.setIfInBounds_toArray, List.set_cons_zero, List.set_cons_succ])
      | (refine wpList_store_mid rfl 26 (.tmp 2) (.tmp 47) rfl (w.heap.size + 1) 0 cr.toArray rfl rfl (by simpa [HLN.out] using TH) (by simpa [HLN.out] using info_rp) HONE.out ?_
         rw [← HW9.out])
      | fail)
    exact bodyPost_ret (v := .agg cr.toArray) (results_blk (q := 2) rfl _ _ (w.heap.size + 1) cr _ rfl FIN.out hu rfl (by rw [HLN.out]; exact info_rp)) rfl HFIN.out
  · have b0 : (eE != 0) = true := by simp [hz]
    have hTT : T = (rab zrp, aE, eE) := by rw [HT.out, if_neg hz]; rfl
    have hfin := HS13.out.A.fin zrp T hTT (okRp.zero _) (by simp [zrp]) (fun ad e => by cases e)
    have honr := all_oneCell_toArray (rpc_one zrp)
    have hlnr := rpc_len zrp
    obtain ⟨cr, hcr⟩ : ∃ cr, cr = rpc zrp := ⟨_, rfl⟩
    rw [← hcr] at hfin honr hlnr
    obtain ⟨W9, hW9⟩ : ∃ W9, W9 = W13.setCells (w.heap.size + 1) 0 cr := ⟨_, rfl⟩
    rw [← hW9] at hfin
    have HFIN := Lib.hid hfin.1
    have FIN := Lib.hid hfin.2.1
    have TH := hfin.2.2
    have HW9 := Lib.hid hW9
    have HLN := Lib.hid hlnr
    have HCR := Lib.hid hcr
    have HONE := Lib.hid honr
    clear hfin hTT hz hW9 hcr honr hlnr
    go_wp2_with (first
      | (refine wpList_store_mid rfl 26 (.tmp 2) (.tmp 46) rfl (w.heap.size + 1) 0 cr.toArray rfl (by rw [HCR.out]; rfl) (by simpa [HLN.out] using TH) (by simpa [HLN.out] using info_rp) HONE.out ?_
         rw [← HW9.out])
      | fail)
    exact bodyPost_ret (v := .agg cr.toArray) (results_blk (q := 2) rfl _ _ (w.heap.size + 1) cr _ rfl FIN.out hu rfl (by rw [HLN.out]; exact info_rp)) rfl HFIN.out
end Go.Proofs.Ytadmaalhhigbeaa
