/- Filters and their parts: Kids of any place; the walk of PredParts. -/
import Derived.Test.YtgpbglmlakildaaPrdS
import Derived.Test.YtgpbglmlakildaaPrdP
namespace Go.Proofs.Ytgpbglmlakildaa
set_option linter.unusedVariables false
set_option linter.unusedSimpArgs false
open Go Go.RowKit BitM ValM

theorem end_bad {l : List Nd} {at_ : Int} (h : at_ < 0 ∨ (l.length : Int) ≤ at_) : endAt l at_ = -1 := by
  unfold endAt
  by_cases h0 : at_ < 0
  · rw [if_pos h0]
  · rw [if_neg h0, List.drop_eq_nil_of_le (by omega)]; rfl
theorem kids_bad (A : Option Addr) (n c : Nat) (l : List Nd) (at_ : Int) (w : World) (hn : l.length = n) (hs : Sees w w.heap.size A (ncs l)) (hm : n ≤ 65536) (h : at_ < 0 ∨ (n : Int) ≤ at_) :
    Calls Try.prog 30 #[.slice A n c, .int .i64 at_] w fun e w' => e = .returned (.slice none 0 0) ∧ w = w' := by
  have HE := Lib.hid (end_any A n c l at_ w w.heap.size hn hs hm)
  rw [end_bad (by rw [hn]; exact h)] at HE
  clear h hs hn
  go_enter Try.func30, Try.ntmps30
  go_wp2_with fail
  refine HE.out.mono ?_
  rintro e w' ⟨rfl, rfl⟩
  go_wp2_with fail
  go_ret
  exact ⟨rfl, rfl⟩
theorem rkids_bad (A : Option Addr) (n c : Nat) (at_ : Int) (w : World) (h : at_ < 0 ∨ (n : Int) ≤ at_) :
    Calls Try.prog 31 #[.slice A n c, .int .i64 at_] w fun e w' => e = .returned (.slice none 0 0) ∧ w = w' := by
  by_cases h0 : at_ < 0
  · have d0 : decide (at_ < 0) = true := decide_eq_true h0
    clear h
    go_enter Try.func31, Try.ntmps31
    go_wp2_with fail
    go_ret
    exact ⟨rfl, rfl⟩
  · have h1 : (n : Int) ≤ at_ := by omega
    have d0 : decide (at_ < 0) = false := decide_eq_false h0
    have d1 : decide ((n : Int) ≤ at_) = true := decide_eq_true h1
    clear h
    go_enter Try.func31, Try.ntmps31
    go_wp2_with fail
    go_ret
    exact ⟨rfl, rfl⟩
theorem kids_both (A : Option Addr) (n c : Nat) (l : List Nd) (at_ : Int) (w : World) (hn : l.length = n) (hs : Sees w w.heap.size A (ncs l)) (hc : n ≤ c) (hm : n ≤ 65536) (hw : Wood l 1) :
    ∃ (ks : List (List Nd)) (nk : Nat), ks.length = nk ∧ nk ≤ 2 ∧ (∀ k ∈ ks, k.length ≤ 65536) ∧
      Hid (∀ wx, Below w.heap.size w wx → Calls Try.prog 30 #[.slice A n c, .int .i64 at_] wx (GotL wx.heap.size wx ks nk)) ∧
      Hid (∀ wx, Below w.heap.size w wx → Calls Try.prog 31 #[.slice A n c, .int .i64 at_] wx (GotL wx.heap.size wx ks nk)) := by
  by_cases h : at_ < 0 ∨ (n : Int) ≤ at_
  · refine ⟨[], 0, rfl, by omega, by simp, Lib.hid fun wx hb => (kids_bad A n c l at_ wx hn ((hs.below hb).more hb.size) hm h).mono ?_, Lib.hid fun wx hb => (rkids_bad A n c at_ wx h).mono ?_⟩
    all_goals
      rintro e w' ⟨rfl, rfl⟩
      exact ⟨none, 0, rfl, Lib.hid (fun hp => absurd hp (by simp)), Below.refl _ _⟩
  · obtain ⟨a, rfl⟩ : ∃ a : Nat, at_ = (a : Int) := ⟨at_.toNat, by omega⟩
    have ha : a < l.length := by omega
    obtain ⟨k', hk'⟩ := wood_drop hw a (by omega)
    rw [List.drop_eq_getElem_cons ha] at hk'
    obtain ⟨j, _, hj⟩ := wood_cons hk'
    rw [Nat.add_comm j] at hj
    obtain ⟨N, he, _⟩ := wood_split hj
    refine ⟨_, _, rfl, ?_, ?_, Lib.hid fun wx hb => (kids_any A n c l a wx hn ((hs.below hb).more hb.size) hc hm ha N he).mono fun e w' hg => hg.got rfl (Nat.le_refl _), Lib.hid fun wx hb => (rkids_any A n c l a wx hn ((hs.below hb).more hb.size) hc hm ha N he).mono fun e w' hg => hg.got rfl (Nat.le_refl _)⟩
    · rw [kids_len he]; exact par_le _
    · intro k hk
      have := (kids_wood he k hk).2
      rw [List.length_drop] at this
      omega
theorem lbig_not {l : List Nd} (h : lbig l = false) : l.length ≤ 100 ∧ ∀ x ∈ l, x.2.2.2.2.size ≤ 1000 := by
  unfold lbig at h
  rw [Bool.or_eq_false_iff] at h
  refine ⟨by have := of_decide_eq_false h.1; omega, fun x hx => ?_⟩
  have := List.any_eq_false.1 h.2 x hx
  simp only [decide_eq_true_eq] at this
  omega

set_option maxRecDepth 100000 in
set_option maxHeartbeats 6400000 in
theorem walk_parts (A0 : Option Addr) (n0 c0 : Nat) (l0 : List Nd) (at_ : Int) (A1 : Option Addr) (n1 c1 : Nat) (l1 : List Nd) (w : World) (h0 : l0.length = n0) (s0 : Sees w w.heap.size A0 (ncs l0)) (hc0 : n0 ≤ c0) (h1 : l1.length = n1) (s1 : Sees w w.heap.size A1 (ncs l1)) (hc1 : n1 ≤ c1) :
    Calls Try.prog 4 #[.slice A0 n0 c0, .int .i64 at_, .slice A1 n1 c1] w fun e w' => e = .returned (.bool true) ∧ Below w.heap.size w w' := by
  have HAW := Lib.hid (fun wx : World => paw_any wx)
  have HLA := Lib.hid (nlarge_any A0 n0 c0 l0 w w.heap.size h0 s0)
  have HLB := Lib.hid (nlarge_any A1 n1 c1 l1 w w.heap.size h1 s1)
  cases hb0 : lbig l0 with
  | true =>
    rw [hb0] at HLA
    clear s0 s1 h0 h1 hb0 HLB
    go_enter Try.func4, Try.ntmps4
    go_wp2_with fail
    refine HLA.out.mono ?_
    rintro e w1 ⟨rfl, rfl⟩
    go_wp2_with fail
    refine (HAW.out _).mono ?_
    rintro e w1 ⟨rfl, hb1⟩
    go_wp2_with fail
    go_ret
    exact ⟨rfl, hb1⟩
  | false =>
  cases hb1 : lbig l1 with
  | true =>
    rw [hb0] at HLA
    rw [hb1] at HLB
    clear s0 s1 h0 h1 hb0 hb1
    go_enter Try.func4, Try.ntmps4
    go_wp2_with fail
    refine HLA.out.mono ?_
    rintro e w1 ⟨rfl, rfl⟩
    go_wp2_with fail
    refine HLB.out.mono ?_
    rintro e w1 ⟨rfl, rfl⟩
    go_wp2_with fail
    refine (HAW.out _).mono ?_
    rintro e w1 ⟨rfl, hb1⟩
    go_wp2_with fail
    go_ret
    exact ⟨rfl, hb1⟩
  | false =>
    obtain ⟨a1, a2⟩ := lbig_not hb0
    obtain ⟨b1, b2⟩ := lbig_not hb1
    rw [hb0] at HLA
    rw [hb1] at HLB
    rw [h0] at a1
    rw [h1] at b1
    have HC01 := Lib.hid (fun wx (h : Below w.heap.size w wx) => lcompare_any A0 n0 c0 l0 A1 n1 c1 l1 wx h0 h1 ((s0.below h).more h.size) ((s1.below h).more h.size) (by omega))
    have HC10 := Lib.hid (fun wx (h : Below w.heap.size w wx) => lcompare_any A1 n1 c1 l1 A0 n0 c0 l0 wx h1 h0 ((s1.below h).more h.size) ((s0.below h).more h.size) (by omega))
    have HR01 := Lib.hid (fun wx (h : Below w.heap.size w wx) => rlcompare_any A0 n0 c0 l0 A1 n1 c1 l1 wx h0 h1 ((s0.below h).more h.size) ((s1.below h).more h.size) (by omega) a2 b2)
    rw [lcmp_neg l1 l0] at HC10
    have HWR := lcmp_wrap l0 l1
    have HVQ := lcmp_vals l0 l1
    obtain ⟨q, hq⟩ : ∃ q, q = lcmp l0 l1 := ⟨_, rfl⟩
    rw [← hq] at HC01 HC10 HR01 HWR HVQ
    have hq1 : -1 ≤ q := by omega
    have hq2 : q ≤ 1 := by omega
    have HK0 := Lib.hid (fun wx (h : Below w.heap.size w wx) => rlcheck_any A0 n0 c0 l0 wx h0 ((s0.below h).more h.size) hc0)
    have HK1 := Lib.hid (fun wx (h : Below w.heap.size w wx) => rlcheck_any A1 n1 c1 l1 wx h1 ((s1.below h).more h.size) hc1)
    obtain ⟨J, hJ⟩ : ∃ J, J = (12, (0 : Int), zv) :: [l0, l1].flatten := ⟨_, rfl⟩
    obtain ⟨m, hm⟩ : ∃ m, m = J.length := ⟨_, rfl⟩
    have m2 : m ≤ 201 := by rw [hm, hJ]; simp [h0, h1]; omega
    have HJ := Lib.hid (fun wx (h : Below w.heap.size w wx) => (join_any 12 (some ⟨wx.heap.size, 0, none⟩) 2 2 [l0, l1] (wx.alloc (.cells #[.slice A0 n0 c0, .slice A1 n1 c1] 22)) rfl (SeesL.two h0 h1 ((s0.below h).more h.size) ((s1.below h).more h.size) _) (by omega) (by simp; omega)).mono fun e w' hg => GivesNodes.got (B := wx.heap.size) (n := m) (by rw [← hJ]; exact hm.symm) (by simp) hg)
    have HJ' := Lib.hid (fun wx (h : Below w.heap.size w wx) => (rjoin_any 12 (some ⟨wx.heap.size, 0, none⟩) 2 2 [l0, l1] (wx.alloc (.cells #[.slice A0 n0 c0, .slice A1 n1 c1] 22)) rfl (SeesL.two h0 h1 ((s0.below h).more h.size) ((s1.below h).more h.size) _) (by omega) (by simp; omega)).mono fun e w' hg => GivesNodes.got (B := wx.heap.size) (n := m) (by rw [← hJ]; exact hm.symm) (by simp) hg)
    rw [← hJ] at HJ HJ'
    have HSM := Lib.hid (fun (A A' c c') (wx : World) (h : Sees wx wx.heap.size A (ncs J)) (h' : Sees wx wx.heap.size A' (ncs J)) => rsame_any A m c J A' m c' J wx hm.symm hm.symm h h' (by omega))
    simp only [decide_true] at HSM
    have HKB : lchk l0 = 0 → _ := fun hz => kids_both A0 n0 c0 l0 at_ w h0 s0 hc0 (by omega) (lchk_ok hz).2.2.1
    clear hJ hm a2 b2 HVQ hq hb0 hb1 s0 s1 h0 h1
    go_enter Try.func4, Try.ntmps4
    go_wp2_with fail
    refine HLA.out.mono ?_
    rintro e w1 ⟨rfl, rfl⟩
    go_wp2_with fail
    refine HLB.out.mono ?_
    rintro e w1 ⟨rfl, rfl⟩
    clear HLA HLB
    go_wp2_with fail
    refine (HC01.out _ (Below.refl _ _)).mono ?_
    rintro e w1 ⟨rfl, hb1⟩
    clear HC01
    go_wp2_with fail
    refine (HR01.out _ hb1).mono ?_
    rintro e w2 ⟨rfl, hb2⟩
    have hb2 := hb1.trans (hb2.mono hb1.size)
    clear hb1
    go_wp2_with fail
    refine (HC10.out _ hb2).mono ?_
    rintro e w3 ⟨rfl, hb3⟩
    have hb3 := hb2.trans (hb3.mono hb2.size)
    clear hb2 HC10
    go_wp2_with fail
    refine (HR01.out _ hb3).mono ?_
    rintro e w4 ⟨rfl, hb4⟩
    have hb4 := hb3.trans (hb4.mono hb3.size)
    clear hb3 HR01
    go_wp2_with fail
    refine (HK0.out _ hb4).mono ?_
    rintro e w5 ⟨rfl, hb5⟩
    have hb5 := hb4.trans (hb5.mono hb4.size)
    clear hb4 HK0
    by_cases hz0 : lchk l0 = 0
    case neg =>
      have hzz : ((lchk l0) != 0) = true := by simpa using hz0
      go_wp2_with fail
      refine (HAW.out _).mono ?_
      rintro e w6 ⟨rfl, hb6⟩
      have hb6 := hb5.trans (hb6.mono hb5.size)
      go_wp2_with fail
      go_ret
      exact ⟨rfl, hb6⟩
    obtain ⟨ks, nk, hks, hnk, hkl, HKA, HKR⟩ := HKB hz0
    have HL := Lib.hid (fun (A A' c c') (wx : World) (h : SeesL wx A ks) (h' : SeesL wx A' ks) => rlists_len A nk c ks A' c' ks wx hks hks h h' (by omega) hkl)
    simp only [decide_true] at HL
    rw [hz0]
    clear HKB hks hnk hkl
    go_wp2_with fail
    refine (HK1.out _ hb5).mono ?_
    rintro e w6 ⟨rfl, hb6⟩
    have hb6 := hb5.trans (hb6.mono hb5.size)
    clear hb5 HK1
    by_cases hz1 : lchk l1 = 0
    case pos =>
      rw [hz1]
      go_wp2_with fail
      refine (HJ.out _ hb6).mono ?_
      rintro e w7 ⟨AJ, cJ, rfl, SJ, hcJ, hb7⟩
      have hb7 := hb6.trans ((((Below.refl w6.heap.size w6).alloc (Nat.le_refl _) _).trans hb7).mono hb6.size)
      clear HJ hb6
      go_wp2_with fail
      refine (HJ'.out _ hb7).mono ?_
      rintro e w8 ⟨AK, cK, rfl, SK, hcK, hb8⟩
      have hb8' := ((Below.refl w7.heap.size w7).alloc (Nat.le_refl _) _).trans hb8
      have SJ := Lib.hid (seesn_kept SJ.out hb8')
      have hb8 := hb7.trans (hb8'.mono hb7.size)
      clear HJ' hb7 hb8'
      go_wp2_with fail
      refine (HSM.out _ _ _ _ _ SJ.out SK.out).mono ?_
      rintro e w9 ⟨rfl, hb9⟩
      have hb9 := hb8.trans (hb9.mono hb8.size)
      clear HSM SJ SK hb8
      go_wp2_with fail
      refine (HKA.out _ hb9).mono ?_
      rintro e v1 ⟨A5, c5, rfl, S5, gb1⟩
      have gb1 := hb9.trans (gb1.mono hb9.size)
      clear HKA
      go_wp2_with fail
      refine (HKR.out _ gb1).mono ?_
      rintro e v2 ⟨A6, c6, rfl, S6, gb2⟩
      have S5 := Lib.hid (S5.out.later gb2)
      have gb2 := gb1.trans (gb2.mono gb1.size)
      clear HKR gb1
      go_wp2_with fail
      refine (HL.out _ _ _ _ _ S5.out S6.out).mono ?_
      rintro e v3 ⟨rfl, gb3⟩
      have gb3 := gb2.trans (gb3.mono gb2.size)
      clear HL S5 S6 gb2
      go_wp2_with fail
      refine (HAW.out _).mono ?_
      rintro e v4 ⟨rfl, gb4⟩
      have gb4 := gb3.trans (gb4.mono gb3.size)
      go_wp2_with fail
      go_ret
      exact ⟨rfl, gb4⟩
    case neg =>
      have hzz : ((lchk l1) == 0) = false := by simpa using hz1
      go_wp2_with fail
      refine (HKA.out _ hb6).mono ?_
      rintro e v1 ⟨A5, c5, rfl, S5, gb1⟩
      have gb1 := hb6.trans (gb1.mono hb6.size)
      clear HKA
      go_wp2_with fail
      refine (HKR.out _ gb1).mono ?_
      rintro e v2 ⟨A6, c6, rfl, S6, gb2⟩
      have S5 := Lib.hid (S5.out.later gb2)
      have gb2 := gb1.trans (gb2.mono gb1.size)
      clear HKR gb1
      go_wp2_with fail
      refine (HL.out _ _ _ _ _ S5.out S6.out).mono ?_
      rintro e v3 ⟨rfl, gb3⟩
      have gb3 := gb2.trans (gb3.mono gb2.size)
      clear HL S5 S6 gb2
      go_wp2_with fail
      refine (HAW.out _).mono ?_
      rintro e v4 ⟨rfl, gb4⟩
      have gb4 := gb3.trans (gb4.mono gb3.size)
      go_wp2_with fail
      go_ret
      exact ⟨rfl, gb4⟩
end Go.Proofs.Ytgpbglmlakildaa
