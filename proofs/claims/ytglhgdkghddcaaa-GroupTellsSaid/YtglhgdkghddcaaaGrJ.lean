/- Groups: GroupTells' walk. -/
import Derived.Test.YtglhgdkghddcaaaGrI
namespace Go.Proofs.Ytglhgdkghddcaaa
set_option linter.unusedVariables false
set_option linter.unusedSimpArgs false
open Go Go.RowKit IdsM

set_option maxRecDepth 100000 in
set_option maxHeartbeats 6400000 in
theorem walk_gtells (A : Option Addr) (n c : Nat) (l : List Gp) (id : Int) (B : Option Addr) (m d : Nat) (l' : List Gp) (w : World) (h : SeesG w A n c l) (h' : SeesG w B m d l') :
    Calls Try.prog 4 #[.slice A n c, .int .i64 id, .slice B m d] w fun e w' => e = .returned (.bool true) ∧ Below w.heap.size w w' := by
  have HL := Lib.hid (large_any A n c l w h)
  have HL' := Lib.hid (fun W (hW : Below w.heap.size w W) => large_any B m d l' W (h'.later hW))
  by_cases g1 : glarge l = true
  · rw [g1] at HL
    clear h h' g1 HL'
    go_enter Try.func4, Try.ntmps4
    go_wp2_with fail
    refine HL.out.mono ?_
    rintro e w2 ⟨rfl, hb2⟩
    have HB2 := Lib.hid hb2
    clear hb2
    go_wp2_with fail
    refine (gr_awake _).mono ?_
    rintro e w3 ⟨rfl, hb3⟩
    have HB3 := Lib.hid (HB2.out.trans (hb3.mono HB2.out.size))
    clear hb3
    go_wp2_with fail
    go_ret
    exact ⟨rfl, HB3.out⟩
  · have g1 : glarge l = false := by simpa using g1
    rw [g1] at HL
    by_cases g2 : glarge l' = true
    · rw [g2] at HL'
      clear h h' g1 g2
      go_enter Try.func4, Try.ntmps4
      go_wp2_with fail
      refine HL.out.mono ?_
      rintro e w2 ⟨rfl, hb2⟩
      have HB2 := Lib.hid hb2
      clear hb2
      go_wp2_with fail
      refine (HL'.out _ HB2.out).mono ?_
      rintro e w3 ⟨rfl, hb3⟩
      have HB3 := Lib.hid (HB2.out.trans (hb3.mono HB2.out.size))
      clear hb3
      go_wp2_with fail
      refine (gr_awake _).mono ?_
      rintro e w4 ⟨rfl, hb4⟩
      have HB4 := Lib.hid (HB3.out.trans (hb4.mono HB3.out.size))
      clear hb4
      go_wp2_with fail
      go_ret
      exact ⟨rfl, HB4.out⟩
    · have g2 : glarge l' = false := by simpa using g2
      rw [g2] at HL'
      obtain ⟨z1, z2⟩ := glarge_of g1
      obtain ⟨z3, z4⟩ := glarge_of g2
      have hn : n ≤ 65536 := by rw [← h.len]; omega
      have hm : m ≤ 65536 := by rw [← h'.len]; omega
      have y2 : ∀ g ∈ l, g.n ≤ 65536 := fun g hg => by have := z2 g hg; omega
      have y4 : ∀ g ∈ l', g.n ≤ 65536 := fun g hg => by have := z4 g hg; omega
      have x2 : ∀ g ∈ l, g.n ≤ 65000 := fun g hg => by have := z2 g hg; omega
      have HSM := Lib.hid (fun W (hW : Below w.heap.size w W) => gsame_any A n c l B m d l' W (h.later hW) (h'.later hW) hn hm y2 y4)
      have HRSM := Lib.hid (fun W (hW : Below w.heap.size w W) => rgsame_any A n c l B m d l' W (h.later hW) (h'.later hW) hn hm y2 y4)
      generalize decide (gabs l = gabs l') = sm at HSM HRSM
      have HRCK := Lib.hid (fun W (hW : Below w.heap.size w W) => rgcheck_any A n c l W (h.later hW) hn y2)
      have hsm : (sm != sm) = false := by simp
      by_cases hok : GOk l
      · rw [decide_eq_true hok] at HRCK
        have HM := Lib.hid (fun (g : Int) W (hW : Below w.heap.size w W) => gmembers_any A n c l g W (h.later hW) hn y2 hok.1)
        have HRM := Lib.hid (fun (g : Int) W (hW : Below w.heap.size w W) => rgmembers_any A n c l g W (h.later hW) hn)
        have HML := Lib.hid (fun (g : Int) => show (gmem l g).length ≤ 65536 from by
          rcases gat_cases l g with ⟨k, hk, _, _, e, _⟩ | ⟨_, e, _⟩
          · rw [e]
            have h1 := (h.ok _ (List.getElem_mem hk)).len
            have h2 := y2 _ (List.getElem_mem hk)
            omega
          · rw [e]; simp)
        have HOF := Lib.hid (fun W (hW : Below w.heap.size w W) => gof_any A n c l id W (h.later hW) hn y2 hok)
        have HROF := Lib.hid (fun W (hW : Below w.heap.size w W) => rgof_any A n c l id W (h.later hW) hn y2 hok)
        have HLV := Lib.hid (fun W (hW : Below w.heap.size w W) => leave_any A n c l id W (h.later hW) hn x2)
        have HRLV := Lib.hid (fun W (hW : Below w.heap.size w W) => rgleave_any A n c l W (h.later hW) hn id x2)
        rw [leave_eq hok] at HLV
        have HLZ : Hid ((l.map (fun g => (g.no, without g.m id))).length ≤ 65536 ∧ ∀ p ∈ l.map (fun g => (g.no, without g.m id)), p.2.length ≤ 65536) := Lib.hid ⟨by rw [List.length_map, h.len]; exact hn, fun p hp => by
          obtain ⟨g, hg, rfl⟩ := List.mem_map.1 hp
          have h1 := (h.ok g hg).len
          have h2 := y2 g hg
          have h3 : (without g.m id).length ≤ g.m.length := List.length_filter_le _ _
          show (without g.m id).length ≤ 65536
          omega⟩
        generalize l.map (fun g => (g.no, without g.m id)) = lv at HLV HRLV HLZ
        generalize gof l id = o at HOF HROF
        clear h h' g1 g2 z1 z2 z3 z4 hn hm y2 y4 x2 hok
        go_enter Try.func4, Try.ntmps4
        go_wp2_with fail
        refine HL.out.mono ?_
        rintro e w2 ⟨rfl, hb2⟩
        have HB2 := Lib.hid hb2
        clear hb2 HL
        go_wp2_with fail
        refine (HL'.out _ HB2.out).mono ?_
        rintro e w3 ⟨rfl, hb3⟩
        have HB3 := Lib.hid (HB2.out.trans (hb3.mono HB2.out.size))
        clear hb3 HL' HB2
        go_wp2_with fail
        refine (HSM.out _ HB3.out).mono ?_
        rintro e w4 ⟨rfl, hb4⟩
        have HB4 := Lib.hid (HB3.out.trans (hb4.mono HB3.out.size))
        clear hb4 HB3
        go_wp2_with fail
        refine (HRSM.out _ HB4.out).mono ?_
        rintro e w5 ⟨rfl, hb5⟩
        have HB5 := Lib.hid (HB4.out.trans (hb5.mono HB4.out.size))
        clear hb5 HB4
        go_wp2_with fail
        refine (HRCK.out _ HB5.out).mono ?_
        rintro e w6 ⟨rfl, hb6⟩
        have HB6 := Lib.hid (HB5.out.trans (hb6.mono HB5.out.size))
        clear hb6 HB5 HSM HRSM HRCK
        go_wp2_with fail
        go_loopw [7] (fun i wr => ∃ k : Nat, k ≤ 18 ∧ i = .int .i64 ((k : Int) - 1) ∧ Hid (Below w.heap.size w wr)) (fun i _ => (17 - intOf i).toNat)
        case atStart => exact ⟨0, by omega, rfl, HB6⟩
        case round =>
          clear HB6
          obtain ⟨k, hk, rfl, HB⟩ := hrel
          obtain ⟨g, hg⟩ : ∃ g : Int, g = (k : Int) - 1 := ⟨_, rfl⟩
          rw [← hg]
          by_cases hlt : k ≤ 17
          · have d0 : decide (g ≤ 16) = true := decide_eq_true (by omega)
            have hg2 : g + 1 ≤ 9223372036854775807 := by omega
            have hg3 : -9223372036854775808 ≤ g + 1 := by omega
            have HGE := Lib.hid hg
            have HK := Lib.hid hk
            have HLT := Lib.hid hlt
            clear hg hk hlt HOF HROF HLV HRLV HLZ
            go_wp2_with fail
            refine (HM.out g _ HB.out).mono ?_
            rintro e w7 ⟨A7, n7, c7, rfl, ho7, hb7⟩
            have HO7 := Lib.hid ho7
            have HB7 := Lib.hid (HB.out.trans (hb7.mono HB.out.size))
            clear ho7 hb7
            go_wp2_with fail
            refine (HRM.out g _ HB7.out).mono ?_
            rintro e w8 ⟨A8, n8, c8, rfl, ho8, hb8⟩
            have HI := Lib.hid (ref_ints A7 n7 c7 (gmem l g) A8 n8 c8 (gmem l g) w8 (HO7.out.later hb8).len (HO7.out.later hb8).see ho8.len ho8.see (by rw [← HO7.out.len]; exact HML.out g) (by rw [← ho8.len]; exact HML.out g))
            rw [decide_eq_true rfl] at HI
            have HB8 := Lib.hid (HB7.out.trans (hb8.mono HB7.out.size))
            clear ho8 hb8 HO7 HB7
            go_wp2_with fail
            refine HI.out.mono ?_
            rintro e w9 ⟨rfl, hb9⟩
            have HB9 := Lib.hid (HB8.out.trans (hb9.mono HB8.out.size))
            clear hb9 HI HB8
            go_wp2_with fail
            go_roundw
            case rel => exact ⟨k + 1, by have := HLT.out; omega, by rw [show g + 1 = ((k + 1 : Nat) : Int) - 1 by have := HGE.out; omega], HB9⟩
            case measure =>
              have := HGE.out
              have := HLT.out
              simp [intOf]
              omega
          · have d0 : decide (g ≤ 16) = false := decide_eq_false (by omega)
            clear HM HRM HML
            go_wp2_with fail
            refine (HOF.out _ HB.out).mono ?_
            rintro e w7 ⟨rfl, hb7⟩
            have HB7 := Lib.hid (HB.out.trans (hb7.mono HB.out.size))
            clear hb7 HB HOF
            go_wp2_with fail
            refine (HROF.out _ HB7.out).mono ?_
            rintro e w8 ⟨rfl, hb8⟩
            have HB8 := Lib.hid (HB7.out.trans (hb8.mono HB7.out.size))
            clear hb8 HB7 HROF
            go_wp2_with fail
            refine (HLV.out _ HB8.out).mono ?_
            rintro e w9 ⟨A9, n9, c9, gs9, rfl, hs9, hg9, hb9⟩
            have HS9 := Lib.hid hs9
            have HG9 := Lib.hid hg9
            have HB9 := Lib.hid (HB8.out.trans (hb9.mono HB8.out.size))
            clear hs9 hg9 hb9 HB8 HLV
            go_wp2_with fail
            refine (HRLV.out _ HB9.out).mono ?_
            rintro e w10 ⟨A10, n10, c10, gs10, rfl, hs10, hg10, hb10⟩
            have HSA := Lib.hid (rgsame_any A9 n9 c9 gs9 A10 n10 c10 gs10 w10 (HS9.out.later hb10) hs10 (by rw [← HS9.out.len, ← gabs_len, HG9.out]; exact HLZ.out.1) (by rw [← hs10.len, ← gabs_len, hg10]; exact HLZ.out.1)
              (fun x hx => by rw [← (HS9.out.ok x hx).len]; exact HLZ.out.2 (gab x) (by rw [← HG9.out]; exact List.mem_map_of_mem hx))
              (fun x hx => by rw [← (hs10.ok x hx).len]; exact HLZ.out.2 (gab x) (by rw [← hg10]; exact List.mem_map_of_mem hx)))
            rw [decide_eq_true (by rw [HG9.out, hg10])] at HSA
            have HB10 := Lib.hid (HB9.out.trans (hb10.mono HB9.out.size))
            clear hs10 hg10 hb10 HB9 HRLV HS9 HG9 HLZ
            go_wp2_with fail
            refine HSA.out.mono ?_
            rintro e w11 ⟨rfl, hb11⟩
            have HB11 := Lib.hid (HB10.out.trans (hb11.mono HB10.out.size))
            clear hb11 HB10 HSA
            go_wp2_with fail
            refine (gr_awake _).mono ?_
            rintro e w12 ⟨rfl, hb12⟩
            have HB12 := Lib.hid (HB11.out.trans (hb12.mono HB11.out.size))
            clear hb12
            go_wp2_with fail
            go_ret
            exact ⟨rfl, HB12.out⟩
      · rw [decide_eq_false hok] at HRCK
        clear h h' g1 g2 z1 z2 z3 z4 hn hm y2 y4 x2 hok
        go_enter Try.func4, Try.ntmps4
        go_wp2_with fail
        refine HL.out.mono ?_
        rintro e w2 ⟨rfl, hb2⟩
        have HB2 := Lib.hid hb2
        clear hb2 HL
        go_wp2_with fail
        refine (HL'.out _ HB2.out).mono ?_
        rintro e w3 ⟨rfl, hb3⟩
        have HB3 := Lib.hid (HB2.out.trans (hb3.mono HB2.out.size))
        clear hb3 HL' HB2
        go_wp2_with fail
        refine (HSM.out _ HB3.out).mono ?_
        rintro e w4 ⟨rfl, hb4⟩
        have HB4 := Lib.hid (HB3.out.trans (hb4.mono HB3.out.size))
        clear hb4 HB3
        go_wp2_with fail
        refine (HRSM.out _ HB4.out).mono ?_
        rintro e w5 ⟨rfl, hb5⟩
        have HB5 := Lib.hid (HB4.out.trans (hb5.mono HB4.out.size))
        clear hb5 HB4
        go_wp2_with fail
        refine (HRCK.out _ HB5.out).mono ?_
        rintro e w6 ⟨rfl, hb6⟩
        have HB6 := Lib.hid (HB5.out.trans (hb6.mono HB5.out.size))
        clear hb6 HB5 HSM HRSM HRCK
        go_wp2_with fail
        refine (gr_awake _).mono ?_
        rintro e w7 ⟨rfl, hb7⟩
        have HB7 := Lib.hid (HB6.out.trans (hb7.mono HB6.out.size))
        clear hb7
        go_wp2_with fail
        go_ret
        exact ⟨rfl, HB7.out⟩
end Go.Proofs.Ytglhgdkghddcaaa
