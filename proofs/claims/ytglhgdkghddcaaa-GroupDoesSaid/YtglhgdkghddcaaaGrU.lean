/- Groups: GroupDoes' walk. -/
import Derived.Test.YtglhgdkghddcaaaGrT
import Derived.Test.YtglhgdkghddcaaaGrO
namespace Go.Proofs.Ytglhgdkghddcaaa
set_option linter.unusedVariables false
set_option linter.unusedSimpArgs false
open Go Go.RowKit IdsM

/-- Answers that are not too large to be held against one another. -/
def GFit (L : List (Int × List Int)) : Prop := L.length ≤ 65536 ∧ ∀ p ∈ L, p.2.length ≤ 65536
theorem GFit.nil_ : GFit [] := ⟨by simp, by simp⟩
theorem gfit_abs {l : List Gp} (h1 : l.length ≤ 40) (h2 : ∀ x ∈ l, x.m.length ≤ 100) : (gabs l).length ≤ 40 ∧ ∀ p ∈ gabs l, p.2.length ≤ 100 :=
  ⟨by rw [gabs_len]; exact h1, fun p hp => by
    obtain ⟨x, hx, rfl⟩ := List.mem_map.1 hp
    exact h2 x hx⟩
theorem gfit_chg {l : List Gp} (h1 : l.length ≤ 40) (h2 : ∀ x ∈ l, x.m.length ≤ 100) (g : Int) (f : List Int → List Int) (hf : ∀ x ∈ l, (f x.m).length ≤ x.m.length + 1) : GFit (chg1 l g f) :=
  ⟨by unfold chg1; rw [List.length_map]; omega, fun p hp => by
    obtain ⟨x, hx, rfl⟩ := List.mem_map.1 hp
    have a := h2 x hx
    have b := hf x hx
    show (if x.no = g then f x.m else x.m).length ≤ _
    split <;> omega⟩
theorem gfit_all {l : List Gp} (h1 : l.length ≤ 40) (h2 : ∀ x ∈ l, x.m.length ≤ 100) (hok : GOk l) (g id : Int) : GFit (ores l g) ∧ GFit (cres l g) ∧ GFit (jres l g id) ∧ GFit (qres l g id) := by
  obtain ⟨a1, a2⟩ := gfit_abs h1 h2
  refine ⟨?_, ?_, ?_, ?_⟩
  · unfold ores
    split
    · refine ⟨by simp only [List.length_append, List.length_cons, List.length_take, List.length_drop]; omega, fun p hp => ?_⟩
      rw [List.mem_append, List.mem_cons] at hp
      rcases hp with hp | rfl | hp
      · have := a2 p (List.mem_of_mem_take hp); omega
      · simp
      · have := a2 p (List.mem_of_mem_drop hp); omega
    · exact GFit.nil_
  · unfold cres
    split
    · refine ⟨by simp only [List.length_append, List.length_take, List.length_drop]; omega, fun p hp => ?_⟩
      rw [List.mem_append] at hp
      rcases hp with hp | hp
      · have := a2 p (List.mem_of_mem_take hp); omega
      · have := a2 p (List.mem_of_mem_drop hp); omega
    · exact GFit.nil_
  · unfold jres
    split
    · exact gfit_chg h1 h2 g _ (fun x hx => put_len1 _ _)
    · exact GFit.nil_
  · unfold qres
    split
    · refine gfit_chg h1 h2 g _ (fun x hx => ?_)
      have := List.length_filter_le (fun y => !decide (y ∈ [id])) x.m
      rw [drop_ref (hok.2 x hx).2]
      unfold without
      omega
    · exact GFit.nil_
theorem gsame_both {w w2 : World} {A A' : Option Addr} {n c n' c' : Nat} {gs gs' : List Gp} {L : List (Int × List Int)} (h : SeesG w A n c gs) (hb : Below w.heap.size w w2) (h' : SeesG w2 A' n' c' gs') (hg : gabs gs = L) (hg' : gabs gs' = L) (hf : GFit L) :
    Calls Try.prog 12 #[.slice A n c, .slice A' n' c'] w2 fun e w' => e = .returned (.bool true) ∧ Below w2.heap.size w2 w' := by
  have key : ∀ {w : World} {A : Option Addr} {n c : Nat} {gs : List Gp}, SeesG w A n c gs → gabs gs = L → n ≤ 65536 ∧ ∀ x ∈ gs, x.n ≤ 65536 := fun {w A n c gs} h hg => by
    refine ⟨by rw [← h.len, ← gabs_len, hg]; exact hf.1, fun x hx => ?_⟩
    rw [← (h.ok x hx).len]
    exact hf.2 (gab x) (by rw [← hg]; exact List.mem_map_of_mem hx)
  have k1 := key h hg
  have k2 := key h' hg'
  have := rgsame_any A n c gs A' n' c' gs' w2 (h.later hb) h' k1.1 k2.1 k1.2 k2.2
  rw [decide_eq_true (hg.trans hg'.symm)] at this
  exact this

set_option maxRecDepth 100000 in
set_option maxHeartbeats 6400000 in
theorem walk_gdoes (A : Option Addr) (n c : Nat) (l : List Gp) (g id : Int) (w : World) (h : SeesG w A n c l) :
    Calls Try.prog 3 #[.slice A n c, .int .i64 g, .int .i64 id] w fun e w' => e = .returned (.bool true) ∧ Below w.heap.size w w' := by
  have HL := Lib.hid (large_any A n c l w h)
  by_cases g1 : glarge l = true
  · rw [g1] at HL
    clear h g1
    go_enter Try.func3, Try.ntmps3
    go_wp2_with fail
    refine (HL.out).mono ?_
    rintro e w2 ⟨rfl, hb2⟩
    have HB2 := Lib.hid (hb2)
    clear hb2
    go_wp2_with fail
    refine (gr_awake _).mono ?_
    rintro e w3 ⟨rfl, hb3⟩
    have HB3 := Lib.hid (HB2.out.trans (hb3.mono HB2.out.size))
    clear hb3
    go_wp2_with fail
    go_ret
    exact ⟨rfl, HB3.out⟩
  · have g1 : glarge l = false := by simpa using g1
    rw [g1] at HL
    obtain ⟨z1, z2⟩ := glarge_of g1
    have hn : n ≤ 65535 := by rw [← h.len]; omega
    have y2 : ∀ g ∈ l, g.n ≤ 65536 := fun g hg => by have := z2 g hg; omega
    have x2 : ∀ g ∈ l, g.n ≤ 65000 := fun g hg => by have := z2 g hg; omega
    have HC := Lib.hid (fun W (hW : Below w.heap.size w W) => gcheck_any A n c l W (h.later hW) (by omega) y2)
    have HCK := Lib.hid (fun W (hW : Below w.heap.size w W) => rgcheck_any A n c l W (h.later hW) (by omega) y2)
    by_cases hok : GOk l
    · rw [decide_eq_true hok] at HC HCK
      obtain ⟨f1, f2, f3, f4⟩ := gfit_all z1 (fun x hx => by rw [(h.ok x hx).len]; exact z2 x hx) hok g id
      have HO := Lib.hid (fun W (hW : Below w.heap.size w W) => open_any A n c l g W (h.later hW) hn y2 hok.1)
      have HRO := Lib.hid (fun W (hW : Below w.heap.size w W) => ropen_any A n c l g W (h.later hW) hn hok.1)
      have HX := Lib.hid (fun W (hW : Below w.heap.size w W) => close_any A n c l g W (h.later hW) (by omega) y2 hok.1)
      have HRX := Lib.hid (fun W (hW : Below w.heap.size w W) => rclose_any A n c l g W (h.later hW) (by omega) hok.1)
      have HJ := Lib.hid (fun W (hW : Below w.heap.size w W) => join_any A n c l g id W (h.later hW) (by omega) x2 hok)
      have HRJ := Lib.hid (fun W (hW : Below w.heap.size w W) => rjoin_any A n c l g id W (h.later hW) (by omega) x2 hok)
      have HQ := Lib.hid (fun W (hW : Below w.heap.size w W) => quit_any A n c l g id W (h.later hW) (by omega) x2 hok)
      have HRQ := Lib.hid (fun W (hW : Below w.heap.size w W) => rquit_any A n c l g id W (h.later hW) (by omega) x2 hok)
      have F1 := Lib.hid f1
      have F2 := Lib.hid f2
      have F3 := Lib.hid f3
      have F4 := Lib.hid f4
      generalize ores l g = L1 at HO HRO F1
      generalize cres l g = L2 at HX HRX F2
      generalize jres l g id = L3 at HJ HRJ F3
      generalize qres l g id = L4 at HQ HRQ F4
      generalize ocode l g = k1 at HO HRO
      generalize ccode l g = k2 at HX HRX
      generalize jcode l g id = k3 at HJ HRJ
      generalize qcode l g id = k4 at HQ HRQ
      have b1 : (k1 != k1) = false := by simp
      have b2 : (k2 != k2) = false := by simp
      have b3 : (k3 != k3) = false := by simp
      have b4 : (k4 == k4) = true := by simp
      clear h g1 z1 z2 hn y2 x2 hok f1 f2 f3 f4
      go_enter Try.func3, Try.ntmps3
      go_wp2_with fail
      refine (HL.out).mono ?_
      rintro e w2 ⟨rfl, hb2⟩
      have HB2 := Lib.hid (hb2)
      clear hb2
      go_wp2_with fail
      refine (HC.out _ HB2.out).mono ?_
      rintro e w3 ⟨rfl, hb3⟩
      have HB3 := Lib.hid (HB2.out.trans (hb3.mono HB2.out.size))
      clear hb3
      go_wp2_with fail
      refine (HCK.out _ HB3.out).mono ?_
      rintro e w4 ⟨rfl, hb4⟩
      have HB4 := Lib.hid (HB3.out.trans (hb4.mono HB3.out.size))
      clear hb4
      go_wp2_with fail
      refine (HCK.out _ HB4.out).mono ?_
      rintro e w5 ⟨rfl, hb5⟩
      have HB5 := Lib.hid (HB4.out.trans (hb5.mono HB4.out.size))
      clear hb5
      clear HC HCK HL HB2 HB3 HB4
      go_wp2_with fail
      refine (HO.out _ HB5.out).mono ?_
      rintro e w6 ⟨A6, n6, c6, gs6, rfl, hs6, hg6, hb6⟩
      have HS6 := Lib.hid hs6
      have HG6 := Lib.hid hg6
      have HB6 := Lib.hid (HB5.out.trans (hb6.mono HB5.out.size))
      clear hb6
      clear hs6 hg6
      go_wp2_with fail
      refine (HRO.out _ HB6.out).mono ?_
      rintro e w7 ⟨A7, n7, c7, gs7, rfl, hs7, hg7, hb7⟩
      have HSM7 := Lib.hid (gsame_both HS6.out hb7 hs7 HG6.out hg7 F1.out)
      have HB7 := Lib.hid (HB6.out.trans (hb7.mono HB6.out.size))
      clear hb7
      clear hs7 hg7 HS6 HG6 HO HRO F1 HB6
      go_wp2_with fail
      refine (HSM7.out).mono ?_
      rintro e w8 ⟨rfl, hb8⟩
      have HB8 := Lib.hid (HB7.out.trans (hb8.mono HB7.out.size))
      clear hb8
      clear HSM7 HB7
      go_wp2_with fail
      refine (HX.out _ HB8.out).mono ?_
      rintro e w9 ⟨A9, n9, c9, gs9, rfl, hs9, hg9, hb9⟩
      have HS9 := Lib.hid hs9
      have HG9 := Lib.hid hg9
      have HB9 := Lib.hid (HB8.out.trans (hb9.mono HB8.out.size))
      clear hb9
      clear hs9 hg9
      go_wp2_with fail
      refine (HRX.out _ HB9.out).mono ?_
      rintro e w10 ⟨A10, n10, c10, gs10, rfl, hs10, hg10, hb10⟩
      have HSM10 := Lib.hid (gsame_both HS9.out hb10 hs10 HG9.out hg10 F2.out)
      have HB10 := Lib.hid (HB9.out.trans (hb10.mono HB9.out.size))
      clear hb10
      clear hs10 hg10 HS9 HG9 HX HRX F2 HB9
      go_wp2_with fail
      refine (HSM10.out).mono ?_
      rintro e w11 ⟨rfl, hb11⟩
      have HB11 := Lib.hid (HB10.out.trans (hb11.mono HB10.out.size))
      clear hb11
      clear HSM10 HB10
      go_wp2_with fail
      refine (HJ.out _ HB11.out).mono ?_
      rintro e w12 ⟨A12, n12, c12, gs12, rfl, hs12, hg12, hb12⟩
      have HS12 := Lib.hid hs12
      have HG12 := Lib.hid hg12
      have HB12 := Lib.hid (HB11.out.trans (hb12.mono HB11.out.size))
      clear hb12
      clear hs12 hg12
      go_wp2_with fail
      refine (HRJ.out _ HB12.out).mono ?_
      rintro e w13 ⟨A13, n13, c13, gs13, rfl, hs13, hg13, hb13⟩
      have HSM13 := Lib.hid (gsame_both HS12.out hb13 hs13 HG12.out hg13 F3.out)
      have HB13 := Lib.hid (HB12.out.trans (hb13.mono HB12.out.size))
      clear hb13
      clear hs13 hg13 HS12 HG12 HJ HRJ F3 HB12
      go_wp2_with fail
      refine (HSM13.out).mono ?_
      rintro e w14 ⟨rfl, hb14⟩
      have HB14 := Lib.hid (HB13.out.trans (hb14.mono HB13.out.size))
      clear hb14
      clear HSM13 HB13
      go_wp2_with fail
      refine (HQ.out _ HB14.out).mono ?_
      rintro e w15 ⟨A15, n15, c15, gs15, rfl, hs15, hg15, hb15⟩
      have HS15 := Lib.hid hs15
      have HG15 := Lib.hid hg15
      have HB15 := Lib.hid (HB14.out.trans (hb15.mono HB14.out.size))
      clear hb15
      clear hs15 hg15
      go_wp2_with fail
      refine (HRQ.out _ HB15.out).mono ?_
      rintro e w16 ⟨A16, n16, c16, gs16, rfl, hs16, hg16, hb16⟩
      have HSM16 := Lib.hid (gsame_both HS15.out hb16 hs16 HG15.out hg16 F4.out)
      have HB16 := Lib.hid (HB15.out.trans (hb16.mono HB15.out.size))
      clear hb16
      clear hs16 hg16 HS15 HG15 HQ HRQ F4 HB15
      go_wp2_with fail
      refine (HSM16.out).mono ?_
      rintro e w17 ⟨rfl, hb17⟩
      have HB17 := Lib.hid (HB16.out.trans (hb17.mono HB16.out.size))
      clear hb17
      clear HSM16 HB16
      go_wp2_with fail
      refine (gr_awake _).mono ?_
      rintro e w18 ⟨rfl, hb18⟩
      have HB18 := Lib.hid (HB17.out.trans (hb18.mono HB17.out.size))
      clear hb18
      go_wp2_with fail
      go_ret
      exact ⟨rfl, HB18.out⟩
    · rw [decide_eq_false hok] at HC HCK
      clear h g1 z1 z2 hn y2 x2 hok
      go_enter Try.func3, Try.ntmps3
      go_wp2_with fail
      refine (HL.out).mono ?_
      rintro e w2 ⟨rfl, hb2⟩
      have HB2 := Lib.hid (hb2)
      clear hb2
      go_wp2_with fail
      refine (HC.out _ HB2.out).mono ?_
      rintro e w3 ⟨rfl, hb3⟩
      have HB3 := Lib.hid (HB2.out.trans (hb3.mono HB2.out.size))
      clear hb3
      go_wp2_with fail
      refine (HCK.out _ HB3.out).mono ?_
      rintro e w4 ⟨rfl, hb4⟩
      have HB4 := Lib.hid (HB3.out.trans (hb4.mono HB3.out.size))
      clear hb4
      go_wp2_with fail
      refine (HCK.out _ HB4.out).mono ?_
      rintro e w5 ⟨rfl, hb5⟩
      have HB5 := Lib.hid (HB4.out.trans (hb5.mono HB4.out.size))
      clear hb5
      go_wp2_with fail
      refine (gr_awake _).mono ?_
      rintro e w6 ⟨rfl, hb6⟩
      have HB6 := Lib.hid (HB5.out.trans (hb6.mono HB5.out.size))
      clear hb6
      go_wp2_with fail
      go_ret
      exact ⟨rfl, HB6.out⟩
end Go.Proofs.Ytglhgdkghddcaaa
