/- The walk of PredJoins. -/
import Derived.Test.YtgpbglmlakildaaPrdO
namespace Go.Proofs.Ytgpbglmlakildaa
set_option linter.unusedVariables false
set_option linter.unusedSimpArgs false
open Go Go.RowKit

set_option maxRecDepth 100000 in
set_option maxHeartbeats 6400000 in
theorem walk_joins (A0 : Option Addr) (n0 c0 : Nat) (l0 : List Nd) (A1 : Option Addr) (n1 c1 : Nat) (l1 : List Nd) (w : World) (h0 : l0.length = n0) (s0 : Sees w w.heap.size A0 (ncs l0)) (hc0 : n0 ≤ c0) (h1 : l1.length = n1) (s1 : Sees w w.heap.size A1 (ncs l1)) (hc1 : n1 ≤ c1) :
    Calls Try.prog 5 #[.slice A0 n0 c0, .slice A1 n1 c1] w fun e w' => e = .returned (.bool true) ∧ Below w.heap.size w w' := by
  have HAW := Lib.hid (fun wx : World => paw_any wx)
  have HC0 := Lib.hid (fun wx (h : Below w.heap.size w wx) => rlcheck_any A0 n0 c0 l0 wx h0 ((s0.below h).more h.size) hc0)
  have HC1 := Lib.hid (fun wx (h : Below w.heap.size w wx) => rlcheck_any A1 n1 c1 l1 wx h1 ((s1.below h).more h.size) hc1)
  by_cases hz0 : lchk l0 = 0
  · by_cases hz1 : lchk l1 = 0
    · obtain ⟨a1, a2, a3, a4⟩ := lchk_ok hz0
      obtain ⟨b1, b2, b3, b4⟩ := lchk_ok hz1
      rw [hz0] at HC0
      rw [hz1] at HC1
      obtain ⟨J, hJ⟩ : ∃ J, J = (11, (0 : Int), zv) :: [l0, l1].flatten := ⟨_, rfl⟩
      obtain ⟨K, hK⟩ : ∃ K, K = (10, (0 : Int), zv) :: [l0].flatten := ⟨_, rfl⟩
      have lJ : J.length = 1 + n0 + n1 := by rw [hJ]; simp [h0, h1]; omega
      have lK : K.length = n0 + 1 := by rw [hK]; simp [h0]
      have wJ : Wood J 1 := hJ ▸ wood_join2 rfl a3 b3
      have wK : Wood K 1 := hK ▸ wood_join1 a3
      have kJ : endAt J 0 = ((1 + n0 + n1 : Nat) : Int) := lJ ▸ (wood_end J).2 wJ
      have kK : endAt K 0 = ((n0 + 1 : Nat) : Int) := lK ▸ (wood_end K).2 wK
      have zJ : lchk J = if 31 < J.length then 4 else if 8 < max (dep l0) (dep l1) + 1 then 5 else 0 := hJ ▸ lchk_join2 rfl hz0 hz1
      have dJ : dep J = max (dep l0) (dep l1) + 1 := hJ ▸ dep_join2 rfl a3 b3
      rw [lJ] at zJ
      obtain ⟨d0, hd0⟩ : ∃ d, d = dep l0 := ⟨_, rfl⟩
      obtain ⟨d1, hd1⟩ : ∃ d, d = dep l1 := ⟨_, rfl⟩
      rw [← hd0, ← hd1] at zJ dJ
      rw [← hd0] at a4
      rw [← hd1] at b4
      have HD0 := Lib.hid (fun wx (h : Below w.heap.size w wx) => depth_any A0 n0 c0 l0 wx h0 ((s0.below h).more h.size) (by omega))
      have HD1 := Lib.hid (fun wx (h : Below w.heap.size w wx) => depth_any A1 n1 c1 l1 wx h1 ((s1.below h).more h.size) (by omega))
      rw [← hd0] at HD0
      rw [← hd1] at HD1
      have HJ := Lib.hid (fun wx (h : Below w.heap.size w wx) => (join_any 11 (some ⟨wx.heap.size, 0, none⟩) 2 2 [l0, l1] (wx.alloc (.cells #[.slice A0 n0 c0, .slice A1 n1 c1] 22)) rfl (SeesL.two h0 h1 ((s0.below h).more h.size) ((s1.below h).more h.size) _) (by omega) (by simp; omega)).mono fun e w' hg => GivesNodes.got (B := wx.heap.size) (n := 1 + n0 + n1) (by rw [← hJ]; exact lJ) (by simp) hg)
      have HK := Lib.hid (fun wx (h : Below w.heap.size w wx) => (join_any 10 (some ⟨wx.heap.size, 0, none⟩) 1 1 [l0] (wx.alloc (.cells #[.slice A0 n0 c0] 22)) rfl (SeesL.single h0 ((s0.below h).more h.size) _) (by omega) (by simp; omega)).mono fun e w' hg => GivesNodes.got (B := wx.heap.size) (n := n0 + 1) (by rw [← hK]; exact lK) (by simp) hg)
      rw [← hJ] at HJ
      rw [← hK] at HK
      have HKJ := Lib.hid (fun (A c) (wx : World) (h : Sees wx wx.heap.size A (ncs J)) (hc : 1 + n0 + n1 ≤ c) => kids_top A (1 + n0 + n1) c J _ _ wx (l0.length + l1.length) 2 [l0, l1] hJ lJ h hc (by omega) (by have := wood_app a3 b3; unfold Wood at this; simpa [par] using this) (kids_join2 a3 b3) rfl)
      have HKK := Lib.hid (fun (A c) (wx : World) (h : Sees wx wx.heap.size A (ncs K)) (hc : n0 + 1 ≤ c) => kids_top A (n0 + 1) c K _ _ wx l0.length 1 [l0] hK lK h hc (by omega) (by unfold Wood at a3; simpa [par] using a3) (kids_join1 a3) rfl)
      have HEJ := Lib.hid (fun (A c) (wx : World) (h : Sees wx wx.heap.size A (ncs J)) => end_any A (1 + n0 + n1) c J 0 wx wx.heap.size lJ h (by omega))
      have HEK := Lib.hid (fun (A c) (wx : World) (h : Sees wx wx.heap.size A (ncs K)) => end_any A (n0 + 1) c K 0 wx wx.heap.size lK h (by omega))
      rw [kJ] at HEJ
      rw [kK] at HEK
      have HDJ := Lib.hid (fun (A c) (wx : World) (h : Sees wx wx.heap.size A (ncs J)) => depth_any A (1 + n0 + n1) c J wx lJ h (by omega))
      have HCJ := Lib.hid (fun (A c) (wx : World) (h : Sees wx wx.heap.size A (ncs J)) => lcheck_any A (1 + n0 + n1) c J wx lJ h)
      obtain ⟨D, hD⟩ : ∃ D, D = max d0 d1 + 1 := ⟨_, rfl⟩
      rw [← hD] at dJ zJ
      rw [dJ] at HDJ
      rw [zJ] at HCJ
      have HL2 := Lib.hid (fun (A c) (wx : World) (hb : Below w.heap.size w wx) (h : SeesL wx A [l0, l1]) => rlists_len A 2 c [l0, l1] (some ⟨wx.heap.size, 0, none⟩) 2 [l0, l1] (wx.alloc (.cells #[.slice A0 n0 c0, .slice A1 n1 c1] 22)) rfl rfl (h.later ((Below.refl _ _).alloc (Nat.le_refl _) _)) (SeesL.two h0 h1 ((s0.below hb).more hb.size) ((s1.below hb).more hb.size) _) (by omega) (by intro k hk; simp at hk; rcases hk with rfl | rfl <;> omega))
      have HL1 := Lib.hid (fun (A c) (wx : World) (hb : Below w.heap.size w wx) (h : SeesL wx A [l0]) => rlists_len A 1 c [l0] (some ⟨wx.heap.size, 0, none⟩) 1 [l0] (wx.alloc (.cells #[.slice A0 n0 c0] 22)) rfl rfl (h.later ((Below.refl _ _).alloc (Nat.le_refl _) _)) (SeesL.single h0 ((s0.below hb).more hb.size) _) (by omega) (by intro k hk; simp at hk; rcases hk with rfl; omega))
      simp only [decide_true] at HL2 HL1
      rw [h0] at a1
      rw [h1] at b1
      obtain ⟨m, hm⟩ : ∃ m, m = 1 + n0 + n1 := ⟨_, rfl⟩
      obtain ⟨m', hm'⟩ : ∃ m, m = n0 + 1 := ⟨_, rfl⟩
      rw [← hm] at HJ HKJ HEJ HDJ HCJ
      rw [← hm'] at HK HKK HEK
      have f1 : ((m : Int) != (m : Int)) = false := by simp
      have f2 : ((m : Int) != 1 + (n0 : Int) + (n1 : Int)) = false := by rw [hm]; simp
      have f3 : ((m' : Int) != (n0 : Int) + 1) = false := by rw [hm']; simp
      have m62 : m ≤ 63 := by omega
      clear hm hm'
      clear hJ hK lJ lK wJ wK kJ kK zJ dJ hd0 hd1 hz0 hz1 a3 b3 a2 b2 h0 h1 s0 s1 hc0 hc1
      go_enter Try.func5, Try.ntmps5
      go_wp2_with fail
      refine (HC0.out _ (Below.refl _ _)).mono ?_
      rintro e w1 ⟨rfl, hb1⟩
      clear HC0
      go_wp2_with fail
      refine (HC1.out _ hb1).mono ?_
      rintro e w2 ⟨rfl, hb2⟩
      have hb2 := hb1.trans (hb2.mono hb1.size)
      clear HC1 hb1
      go_wp2_with fail
      refine (HJ.out _ hb2).mono ?_
      rintro e w3 ⟨AJ, cJ, rfl, SJ, hcJ, hb3⟩
      have hb3 := hb2.trans ((((Below.refl w2.heap.size w2).alloc (Nat.le_refl _) _).trans hb3).mono hb2.size)
      clear HJ hb2
      go_wp2_with fail
      refine (HK.out _ hb3).mono ?_
      rintro e w4 ⟨AK, cK, rfl, SK, hcK, hb4⟩
      have hb4' := ((Below.refl w3.heap.size w3).alloc (Nat.le_refl _) _).trans hb4
      have hb5 := hb3.trans (hb4'.mono hb3.size)
      have SJ := Lib.hid (seesn_kept SJ.out hb4')
      clear HK hb3 hb4 hb4'
      go_wp2_with fail
      refine (HEJ.out _ _ _ SJ.out).mono ?_
      rintro e w5 ⟨rfl, rfl⟩
      clear HEJ
      go_wp2_with fail
      refine (HEK.out _ _ _ SK.out).mono ?_
      rintro e w5 ⟨rfl, rfl⟩
      clear HEK
      go_wp2_with fail
      refine (HD0.out _ hb5).mono ?_
      rintro e w5 ⟨rfl, hb6⟩
      have SJ := Lib.hid (seesn_kept SJ.out hb6)
      have SK := Lib.hid (seesn_kept SK.out hb6)
      have hb6 := hb5.trans (hb6.mono hb5.size)
      clear HD0 hb5
      go_wp2_with fail
      refine (HD1.out _ hb6).mono ?_
      rintro e w6 ⟨rfl, hb7⟩
      have SJ := Lib.hid (seesn_kept SJ.out hb7)
      have SK := Lib.hid (seesn_kept SK.out hb7)
      have hb7 := hb6.trans (hb7.mono hb6.size)
      clear HD1 hb6
      have HDD := Lib.hid hD
      clear hD
      have g1 : ((D : Int) == (D : Int)) = true := by simp
      go_wp2_with fail
      all_goals
        have hD := HDD.out
        first
        | rw [show (d0 : Int) + 1 = (D : Int) by omega]
        | rw [show (d1 : Int) + 1 = (D : Int) by omega]
        refine (HKJ.out _ _ _ SJ.out hcJ).mono ?_
        rintro e w7 ⟨A7, c7, rfl, S7, hb8⟩
        have SJ := Lib.hid (seesn_kept SJ.out hb8)
        have SK := Lib.hid (seesn_kept SK.out hb8)
        have hb8 := hb7.trans (hb8.mono hb7.size)
        clear HKJ hD
        go_wp2_with fail
        refine (HL2.out _ _ _ hb8 S7.out).mono ?_
        rintro e w8 ⟨rfl, hb9⟩
        have hb9' := ((Below.refl w7.heap.size w7).alloc (Nat.le_refl _) _).trans (hb9.mono (by simp))
        have SJ := Lib.hid (seesn_kept SJ.out hb9')
        have SK := Lib.hid (seesn_kept SK.out hb9')
        have hb9 := hb8.trans (hb9'.mono hb8.size)
        clear HL2 hb8 hb9'
        go_wp2_with fail
        refine (HKK.out _ _ _ SK.out hcK).mono ?_
        rintro e w9 ⟨A9, c9, rfl, S9, hb10⟩
        have SJ := Lib.hid (seesn_kept SJ.out hb10)
        have hb10 := hb9.trans (hb10.mono hb9.size)
        clear HKK SK hb9
        go_wp2_with fail
        refine (HL1.out _ _ _ hb10 S9.out).mono ?_
        rintro e w10 ⟨rfl, hb11⟩
        have hb11' := ((Below.refl w9.heap.size w9).alloc (Nat.le_refl _) _).trans (hb11.mono (by simp))
        have SJ := Lib.hid (seesn_kept SJ.out hb11')
        have hb11 := hb10.trans (hb11'.mono hb10.size)
        clear HL1 hb10 hb11'
        go_wp2_with fail
        refine (HDJ.out _ _ _ SJ.out).mono ?_
        rintro e w11 ⟨rfl, hb12⟩
        have SJ := Lib.hid (seesn_kept SJ.out hb12)
        have hb12 := hb11.trans (hb12.mono hb11.size)
        clear HDJ hb11
        go_wp2_with fail
        have hD := HDD.out
        have hz := HCJ.out _ cJ _ SJ.out
        first
        | rw [if_pos (show 31 < m by omega)] at hz
        | rw [if_neg (show ¬ 31 < m by omega), if_pos (show 8 < D by omega)] at hz
        | rw [if_neg (show ¬ 31 < m by omega), if_neg (show ¬ 8 < D by omega)] at hz
        refine hz.mono ?_
        rintro e w12 ⟨rfl, hb13⟩
        have hb13 := hb12.trans (hb13.mono hb12.size)
        clear hz hD SJ HCJ hb12
        go_wp2_with fail
        refine (HAW.out _).mono ?_
        rintro e w13 ⟨rfl, hb14⟩
        have hb14 := hb13.trans (hb14.mono hb13.size)
        go_wp2_with fail
        go_ret
        exact ⟨rfl, hb14⟩
    · have hzz : ((lchk l1) != 0) = true := by simpa using hz1
      go_enter Try.func5, Try.ntmps5
      go_wp2_with fail
      refine (HC0.out _ (Below.refl _ _)).mono ?_
      rintro e w1 ⟨rfl, hb1⟩
      rw [hz0]
      clear HC0
      go_wp2_with fail
      refine (HC1.out _ hb1).mono ?_
      rintro e w2 ⟨rfl, hb2⟩
      have hb2 := hb1.trans (hb2.mono hb1.size)
      clear HC1 hb1
      go_wp2_with fail
      refine (HAW.out _).mono ?_
      rintro e w3 ⟨rfl, hb3⟩
      have hb3 := hb2.trans (hb3.mono hb2.size)
      go_wp2_with fail
      go_ret
      exact ⟨rfl, hb3⟩
  · have hzz : ((lchk l0) != 0) = true := by simpa using hz0
    go_enter Try.func5, Try.ntmps5
    go_wp2_with fail
    refine (HC0.out _ (Below.refl _ _)).mono ?_
    rintro e w1 ⟨rfl, hb1⟩
    go_wp2_with fail
    refine (HAW.out _).mono ?_
    rintro e w3 ⟨rfl, hb3⟩
    have hb3 := hb1.trans (hb3.mono hb1.size)
    go_wp2_with fail
    go_ret
    exact ⟨rfl, hb3⟩
end Go.Proofs.Ytgpbglmlakildaa
