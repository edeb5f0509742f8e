/- What is wrong with a filter: what Check returns, the program's and the document's; which lists are too long to look at. -/
import Derived.Test.YtadmaalhhigbeaaPrdB
import Derived.Test.YtadmaalhhigbeaaPrdC
import Derived.Test.YtadmaalhhigbeaaPrdF
import Derived.Test.YtadmaalhhigbeaaPrdH
namespace Go.Proofs.Ytadmaalhhigbeaa
set_option linter.unusedVariables false
set_option linter.unusedSimpArgs false
open Go Go.RowKit

theorem lchk_long {l : List Nd} (h : 31 < l.length) : lchk l = 4 := by unfold lchk; rw [if_pos h]
theorem lchk_bad {l : List Nd} (h : l.length ≤ 31) {k : Nat} (hk : k < l.length) (hb : nok l[k] = false) : lchk l = 1 := by
  unfold lchk
  rw [if_neg (by omega), if_pos]
  rw [List.all_eq_false]
  exact ⟨l[k], List.getElem_mem hk, by simp [hb]⟩
theorem lchk_all {l : List Nd} (h : l.length ≤ 31) (ha : l.all nok = true) : lchk l = if ¬ Wood l 1 then 1 else if 8 < dep l then 5 else 0 := by
  unfold lchk
  rw [if_neg (by omega), if_neg (by rw [ha]; simp)]
theorem all_take {l : List Nd} {k : Nat} (hk : k < l.length) (h : (l.take k).all nok = true) (hn : nok l[k] = true) : (l.take (k + 1)).all nok = true := by
  rw [List.take_succ_eq_append_getElem hk, List.all_append, h]
  simp [hn]
theorem zc5 : (ncells zn).toArray = #[Value.int .i64 0, .int .i64 0, .int .i64 0, .int .i64 0, .string { data := #[] }] := rfl

set_option maxRecDepth 100000 in
set_option maxHeartbeats 3200000 in
theorem lcheck_any (A : Option Addr) (n c : Nat) (l : List Nd) (w : World) (hn : l.length = n) (hs : Sees w w.heap.size A (ncs l)) :
    Calls Try.prog 35 #[.slice A n c] w fun e w' => e = .returned (.int .i64 (lchk l)) ∧ Below w.heap.size w w' := by
  by_cases h31 : 31 < n
  · have HR := Lib.hid (lchk_long (by rw [hn]; exact h31))
    have d0 : decide ((31 : Int) < (n : Int)) = true := by simp; omega
    clear hs hn
    go_enter Try.func35, Try.ntmps35
    go_wp2_with fail
    go_ret
    exact ⟨by rw [HR.out]; rfl, Below.refl _ _⟩
  · have d0 : decide ((31 : Int) < (n : Int)) = false := by simp; omega
    have d0n : decide (31 < n) = false := by simp; omega
    have hu := Try.underlying71
    have hn31 : n ≤ 31 := by omega
    have HE := Lib.hid (fun wx (h : Sees wx w.heap.size A (ncs l)) => end_any A n c l 0 wx w.heap.size hn h (by omega))
    have HD := Lib.hid (fun wx (h : Sees wx wx.heap.size A (ncs l)) => depth_any A n c l wx hn h (by omega))
    have HN := Lib.hid hn
    have HBAD := Lib.hid (fun k (hk : k < l.length) (hb : nok l[k] = false) => lchk_bad (by rw [hn]; exact hn31) hk hb)
    have HALL := Lib.hid (fun (ha : l.all nok = true) => lchk_all (by rw [hn]; exact hn31) ha)
    obtain ⟨R, hR⟩ : ∃ R, R = lchk l := ⟨_, rfl⟩
    rw [← hR] at HBAD HALL ⊢
    clear hR hn h31
    go_enter Try.func35, Try.ntmps35
    go_wp2_with fail
    go_loopw [10] (fun i wr => ∃ k : Nat, k ≤ n ∧ i = .int .i64 k ∧ Hid ((l.take k).all nok = true) ∧ Below w.heap.size w wr) (fun i _ => n - (intOf i).toNat)
    case atStart => exact ⟨0, by omega, rfl, Lib.hid rfl, Below.refl _ _⟩
    case round =>
      obtain ⟨k, hk, rfl, HK, hbr⟩ := hrel
      by_cases hlt : k < n
      · have hkl : k < l.length := by rw [HN.out]; exact hlt
        have d1 : decide ((k : Int) < (n : Int)) = true := by simp; omega
        obtain ⟨b, o, rfl, hb, hcc, hc2, hrg⟩ := sees_node (hs.below hbr) k hkl
        clear hcc hc2
        have BN := Blk.new wr (ncells zn) 71
        have TH := BN.there 0 5 (by rw [ncells_len]; exact Nat.le_refl 5)
        have FIN := BN.sets (ncells l[k]) 0 (by rw [ncells_len, ncells_len]; exact Nat.le_refl 5)
        have e1 : (ncells zn).take 0 ++ ncells l[k] ++ (ncells zn).drop (0 + (ncells l[k]).length) = ncells l[k] := by simp [ncells]
        rw [e1] at FIN
        have hbz := hbr.size
        have HB2 := below_sets hbr.size (ncells l[k]) 0 (hbr.alloc hbr.size (.cells (ncells zn).toArray 71))
        have HC := Lib.hid (fun wx : World => node_any l[k] wx)
        have HONE := Lib.hid (show ∀ v ∈ ncells l[k], v.oneCell' = true from fun v hv => ncs_one [l[k]] v (by simpa [ncs] using hv))
        obtain ⟨R1, hR1⟩ : ∃ b, b = nok l[k] := ⟨_, rfl⟩
        have HR1 := Lib.hid hR1
        rw [← hR1] at HC
        obtain ⟨nc, hnc⟩ : ∃ nc, nc = ncells l[k] := ⟨_, rfl⟩
        have HSZ := Lib.hid (show nc.length = 5 by rw [hnc]; rfl)
        rw [← hnc] at hrg FIN HB2 HC HONE
        clear e1 hnc hR1 BN
        have RG := FIN.range 0 nc (by rw [HSZ.out, List.drop_zero, List.take_of_length_le (by rw [HSZ.out]; exact Nat.le_refl _)])
        clear FIN
        rw [zc5] at TH HB2 RG
        go_wp2_with (first
          | (refine wpList_load_mid rfl 71 (.tmp 12) rfl b (o + k * 5) rfl nc _ hrg hu rfl (by rw [HSZ.out]; exact info_node) ?_)
          | (refine wpList_store_mid rfl 71 (.tmp 4) (.tmp 13) rfl wr.heap.size 0 nc.toArray rfl rfl (by simpa [HSZ.out] using TH) (by simpa [HSZ.out] using info_node) (all_oneCell_toArray HONE.out) ?_)
          | (refine wpList_load_mid rfl 71 (.tmp 4) rfl wr.heap.size 0 rfl nc _ RG hu rfl (by rw [HSZ.out]; exact info_node) ?_)
          | fail)
        refine (HC.out _).mono ?_
        rintro e w2 ⟨rfl, hb2⟩
        have hb3 := HB2.trans (hb2.mono HB2.size)
        clear RG TH hrg HB2 hb2
        cases R1 with
        | true =>
          go_wp2_with fail
          go_roundw
          case rel => exact ⟨k + 1, by omega, by go_num, Lib.hid (all_take hkl HK.out HR1.out.symm), hb3⟩
          case measure => simp [intOf]; omega
        | false =>
          have HRR := Lib.hid (HBAD.out k hkl HR1.out.symm)
          go_wp2_with fail
          go_ret
          exact ⟨by rw [HRR.out]; rfl, hb3⟩
      · obtain rfl : k = n := by omega
        have HRR := Lib.hid (HALL.out (by have := HK.out; rwa [List.take_of_length_le (by rw [HN.out]; exact Nat.le_refl _)] at this))
        by_cases hw : Wood l 1
        · have HE2 := HE
          rw [show endAt l 0 = (k : Int) by rw [(wood_end l).2 hw, HN.out]] at HE2
          have HR2 : Hid (R = if 8 < dep l then 5 else 0) := Lib.hid (by rw [HRR.out, if_neg (by simpa using hw)])
          obtain ⟨d, hd⟩ : ∃ d, d = dep l := ⟨_, rfl⟩
          rw [← hd] at HD HR2
          by_cases h8 : 8 < d
          · have d8 : decide ((8 : Int) < (d : Int)) = true := by simp; omega
            have HR3 : Hid (R = 5) := Lib.hid (by rw [HR2.out, if_pos h8])
            clear hd
            go_wp2_with fail
            refine (HE2.out _ (hs.below hbr)).mono ?_
            rintro e w2 ⟨rfl, rfl⟩
            go_wp2_with fail
            refine (HD.out _ ((hs.below hbr).more hbr.size)).mono ?_
            rintro e w2 ⟨rfl, hb2⟩
            go_wp2_with fail
            go_ret
            exact ⟨by rw [HR3.out]; rfl, hbr.trans (hb2.mono hbr.size)⟩
          · have d8 : decide ((8 : Int) < (d : Int)) = false := by simp; omega
            have HR3 : Hid (R = 0) := Lib.hid (by rw [HR2.out, if_neg h8])
            clear hd
            go_wp2_with fail
            refine (HE2.out _ (hs.below hbr)).mono ?_
            rintro e w2 ⟨rfl, rfl⟩
            go_wp2_with fail
            refine (HD.out _ ((hs.below hbr).more hbr.size)).mono ?_
            rintro e w2 ⟨rfl, hb2⟩
            go_wp2_with fail
            go_ret
            exact ⟨by rw [HR3.out]; rfl, hbr.trans (hb2.mono hbr.size)⟩
        · have HR2 : Hid (R = 1) := Lib.hid (by rw [HRR.out, if_pos hw])
          have b1 : (endAt l 0 != (k : Int)) = true := by
            rw [bne_iff_ne, ← HN.out]
            exact fun h => hw ((wood_end l).1 h)
          generalize endAt l 0 = z at HE b1
          clear hw
          go_wp2_with fail
          refine (HE.out _ (hs.below hbr)).mono ?_
          rintro e w2 ⟨rfl, rfl⟩
          go_wp2_with fail
          go_ret
          exact ⟨by rw [HR2.out]; rfl, hbr⟩

set_option maxRecDepth 100000 in
set_option maxHeartbeats 3200000 in
theorem rlcheck_any (A : Option Addr) (n c : Nat) (l : List Nd) (w : World) (hn : l.length = n) (hs : Sees w w.heap.size A (ncs l)) (hc : n ≤ c) :
    Calls Try.prog 37 #[.slice A n c] w fun e w' => e = .returned (.int .i64 (lchk l)) ∧ Below w.heap.size w w' := by
  by_cases h31 : 31 < n
  · have HR := Lib.hid (lchk_long (by rw [hn]; exact h31))
    have d0 : decide ((31 : Int) < (n : Int)) = true := by simp; omega
    clear hs hn
    go_enter Try.func37, Try.ntmps37
    go_wp2_with fail
    go_ret
    exact ⟨by rw [HR.out]; rfl, Below.refl _ _⟩
  · have d0 : decide ((31 : Int) < (n : Int)) = false := by simp; omega
    have d0n : decide (31 < n) = false := by simp; omega
    have hu := Try.underlying71
    have hn31 : n ≤ 31 := by omega
    have HE := Lib.hid (fun wx (h : Sees wx w.heap.size A (ncs l)) => rend_any A n c l 0 wx w.heap.size hn h (by omega))
    have HD := Lib.hid (fun wx (h : Sees wx wx.heap.size A (ncs l)) => rdepth_any A n c l wx hn h hc (by omega))
    have HN := Lib.hid hn
    have HBAD := Lib.hid (fun k (hk : k < l.length) (hb : nok l[k] = false) => lchk_bad (by rw [hn]; exact hn31) hk hb)
    have HALL := Lib.hid (fun (ha : l.all nok = true) => lchk_all (by rw [hn]; exact hn31) ha)
    obtain ⟨R, hR⟩ : ∃ R, R = lchk l := ⟨_, rfl⟩
    rw [← hR] at HBAD HALL ⊢
    clear hR hn h31
    go_enter Try.func37, Try.ntmps37
    go_wp2_with fail
    go_loopw [3] (fun i wr => ∃ k : Nat, k ≤ n ∧ i = .int .i64 k ∧ Hid ((l.take k).all nok = true) ∧ Below w.heap.size w wr) (fun i _ => n - (intOf i).toNat)
    case atStart => exact ⟨0, by omega, rfl, Lib.hid rfl, Below.refl _ _⟩
    case round =>
      obtain ⟨k, hk, rfl, HK, hbr⟩ := hrel
      by_cases hlt : k < n
      · have hkl : k < l.length := by rw [HN.out]; exact hlt
        have d1 : decide ((k : Int) < (n : Int)) = true := by simp; omega
        obtain ⟨b, o, rfl, hb, hcc, hc2, hrg⟩ := sees_node (hs.below hbr) k hkl
        clear hcc hc2
        have HC := Lib.hid (fun wx : World => rnode_any l[k] wx)
        obtain ⟨R1, hR1⟩ : ∃ b, b = nok l[k] := ⟨_, rfl⟩
        have HR1 := Lib.hid hR1
        rw [← hR1] at HC
        obtain ⟨nc, hnc⟩ : ∃ nc, nc = ncells l[k] := ⟨_, rfl⟩
        have HSZ := Lib.hid (show nc.length = 5 by rw [hnc]; rfl)
        rw [← hnc] at hrg HC
        clear hnc hR1
        go_wp2_with (first
          | (refine wpList_load_mid rfl 71 (.tmp 15) rfl b (o + k * 5) rfl nc _ hrg hu rfl (by rw [HSZ.out]; exact info_node) ?_)
          | fail)
        refine (HC.out _).mono ?_
        rintro e w2 ⟨rfl, hb2⟩
        have hb3 := hbr.trans (hb2.mono hbr.size)
        clear hrg hb2
        cases R1 with
        | true =>
          go_wp2_with fail
          go_roundw
          case rel => exact ⟨k + 1, by omega, by go_num, Lib.hid (all_take hkl HK.out HR1.out.symm), hb3⟩
          case measure => simp [intOf]; omega
        | false =>
          have HRR := Lib.hid (HBAD.out k hkl HR1.out.symm)
          go_wp2_with fail
          go_ret
          exact ⟨by rw [HRR.out]; rfl, hb3⟩
      · obtain rfl : k = n := by omega
        have HRR := Lib.hid (HALL.out (by have := HK.out; rwa [List.take_of_length_le (by rw [HN.out]; exact Nat.le_refl _)] at this))
        by_cases h0 : k = 0
        · have b0 : ((k : Int) == 0) = true := by simp [h0]
          have HR2 : Hid (R = 1) := Lib.hid (by
            have : l = [] := List.length_eq_zero_iff.1 (by rw [HN.out]; exact h0)
            rw [HRR.out, this, if_pos (by unfold Wood; intro h; cases h)])
          clear h0
          go_wp2_with fail
          go_ret
          exact ⟨by rw [HR2.out]; rfl, hbr⟩
        · have b0 : ((k : Int) == 0) = false := by simp [h0]
          by_cases hw : Wood l 1
          · have HE2 := HE
            rw [show endAt l 0 = (k : Int) by rw [(wood_end l).2 hw, HN.out]] at HE2
            have HR2 : Hid (R = if 8 < dep l then 5 else 0) := Lib.hid (by rw [HRR.out, if_neg (by simpa using hw)])
            obtain ⟨d, hd⟩ : ∃ d, d = dep l := ⟨_, rfl⟩
            rw [← hd] at HD HR2
            by_cases h8 : 8 < d
            · have d8 : decide ((8 : Int) < (d : Int)) = true := by simp; omega
              have HR3 : Hid (R = 5) := Lib.hid (by rw [HR2.out, if_pos h8])
              clear hd h0
              go_wp2_with fail
              refine (HE2.out _ (hs.below hbr)).mono ?_
              rintro e w2 ⟨rfl, rfl⟩
              go_wp2_with fail
              refine (HD.out _ ((hs.below hbr).more hbr.size)).mono ?_
              rintro e w2 ⟨rfl, hb2⟩
              go_wp2_with fail
              go_ret
              exact ⟨by rw [HR3.out]; rfl, hbr.trans (hb2.mono hbr.size)⟩
            · have d8 : decide ((8 : Int) < (d : Int)) = false := by simp; omega
              have HR3 : Hid (R = 0) := Lib.hid (by rw [HR2.out, if_neg h8])
              clear hd h0
              go_wp2_with fail
              refine (HE2.out _ (hs.below hbr)).mono ?_
              rintro e w2 ⟨rfl, rfl⟩
              go_wp2_with fail
              refine (HD.out _ ((hs.below hbr).more hbr.size)).mono ?_
              rintro e w2 ⟨rfl, hb2⟩
              go_wp2_with fail
              go_ret
              exact ⟨by rw [HR3.out]; rfl, hbr.trans (hb2.mono hbr.size)⟩
          · have HR2 : Hid (R = 1) := Lib.hid (by rw [HRR.out, if_pos hw])
            have b1 : (endAt l 0 != (k : Int)) = true := by
              rw [bne_iff_ne, ← HN.out]
              exact fun h => hw ((wood_end l).1 h)
            generalize endAt l 0 = z at HE b1
            clear hw h0
            go_wp2_with fail
            refine (HE.out _ (hs.below hbr)).mono ?_
            rintro e w2 ⟨rfl, rfl⟩
            go_wp2_with fail
            go_ret
            exact ⟨by rw [HR2.out]; rfl, hbr⟩

/-- Which lists are too long to look at. -/
def lbig (l : List Nd) : Bool := decide (100 < l.length) || l.any fun n => decide (200 < n.2.2.2.2.size)
set_option maxRecDepth 100000 in
set_option maxHeartbeats 3200000 in
theorem nlarge_any (A : Option Addr) (n c : Nat) (l : List Nd) (w : World) (B : Nat) (hn : l.length = n) (hs : Sees w B A (ncs l)) :
    Calls Try.prog 7 #[.slice A n c] w fun e w' => e = .returned (.bool (lbig l)) ∧ w = w' := by
  by_cases h31 : 100 < n
  · have HR : Hid (lbig l = true) := Lib.hid (by unfold lbig; rw [hn, decide_eq_true h31]; rfl)
    have d0 : decide ((100 : Int) < (n : Int)) = true := by simp; omega
    clear hs hn
    go_enter Try.func7, Try.ntmps7
    go_wp2_with fail
    go_ret
    exact ⟨by rw [HR.out]; rfl, rfl⟩
  · have d0 : decide ((100 : Int) < (n : Int)) = false := by simp; omega
    have d0n : decide (100 < n) = false := by simp; omega
    have HR : Hid (lbig l = l.any fun n => decide (200 < n.2.2.2.2.size)) := Lib.hid (by unfold lbig; rw [hn, decide_eq_false h31]; rfl)
    have HN := Lib.hid hn
    have hn31 : n ≤ 100 := by omega
    obtain ⟨R, hR⟩ : ∃ R, R = lbig l := ⟨_, rfl⟩
    rw [← hR] at HR ⊢
    clear hR hn h31
    go_enter Try.func7, Try.ntmps7
    go_wp2_with fail
    go_loop [3] (fun i => ∃ k : Nat, k ≤ n ∧ i = .int .i64 k ∧ Hid (((l.take k).any fun n => decide (200 < n.2.2.2.2.size)) = false)) (fun i => n - (intOf i).toNat)
    case atStart => exact ⟨0, by omega, rfl, Lib.hid rfl⟩
    case round =>
      obtain ⟨k, hk, rfl, HK⟩ := hrel
      by_cases hlt : k < n
      · have hkl : k < l.length := by rw [HN.out]; exact hlt
        have d1 : decide ((k : Int) < (n : Int)) = true := by simp; omega
        obtain ⟨b, o, rfl, hb, hcc, hc2, hrg⟩ := sees_node hs k hkl
        have hcs : w.cell? ⟨b, o + k * 5 + 4, none⟩ = some (.string l[k].2.2.2.2) := hrg 4 _ rfl
        clear hcc hc2 hrg
        have HN2 : Hid (((l.take (k + 1)).any fun n => decide (200 < n.2.2.2.2.size)) = decide (200 < l[k].2.2.2.2.size)) := Lib.hid (by
          rw [List.take_succ_eq_append_getElem hkl, List.any_append, HK.out]
          simp)
        have HTR : Hid (((l.take (k + 1)).any fun n => decide (200 < n.2.2.2.2.size)) = true → R = true) := Lib.hid (fun h => by
          rw [HR.out, ← List.take_append_drop (k + 1) l, List.any_append, h]
          rfl)
        obtain ⟨s, hs2⟩ : ∃ s, s = l[k].2.2.2.2 := ⟨_, rfl⟩
        rw [← hs2] at hcs HN2
        clear hs2
        by_cases hgt : 200 < s.size
        · have d2 : decide ((200 : Int) < (s.size : Int)) = true := by simp; omega
          have HRR : Hid (R = true) := Lib.hid (HTR.out (by rw [HN2.out, decide_eq_true hgt]))
          go_wp2_with fail
          go_ret
          exact ⟨by rw [HRR.out]; rfl, rfl⟩
        · have d2 : decide ((200 : Int) < (s.size : Int)) = false := by simp; omega
          have HK2 := Lib.hid (HN2.out.trans (decide_eq_false hgt))
          go_wp2_with fail
          go_round
          case rel => exact ⟨k + 1, by omega, by go_num, HK2⟩
          case measure => simp [intOf]; omega
      · obtain rfl : k = n := by omega
        have HRR : Hid (R = false) := Lib.hid (by have := HK.out; rw [List.take_of_length_le (by rw [HN.out]; exact Nat.le_refl _)] at this; rw [HR.out, this])
        go_wp2_with fail
        go_ret
        exact ⟨by rw [HRR.out]; rfl, rfl⟩
end Go.Proofs.Ytadmaalhhigbeaa
