/- What is wrong with a filter: what Check returns, the program's and the document's; which lists are too long to look at. -/
import Derived.Test.YtadmaalhhigbeaaW5
import Derived.Test.YtadmaalhhigbeaaW6
import Derived.Test.YtadmaalhhigbeaaW7
import Derived.Test.YtadmaalhhigbeaaW3
import Derived.Test.YtadmaalhhigbeaaW4
import Derived.Test.YtadmaalhhigbeaaW1
import Derived.Deep.Slices
import Derived.Deep.Strs
namespace Go.Proofs.Ytadmaalhhigbeaa
set_option linter.unusedVariables false
set_option linter.unusedSimpArgs false
open Go Go.RowKit

theorem lchk_long {l : List Nd} (h : 31 < l.length) : lchk l = 4 := by unfold lchk; rw [if_pos h]
theorem lchk_bad {l : List Nd} (h : l.length ≤ 31) {k : Nat} (hk : k < l.length) (hb : nok l[k] = false) : lchk l = 1 := by
  unfold lchk
  rw [if_neg (by omega), if_pos]
  rw [List.all_eq_false]
  exact ⟨l[k], List.getElem_mem hk, by simp [hb]⟩
theorem lchk_all {l : List Nd} (h : l.length ≤ 31) (ha : l.all nok = true) : lchk l = if ¬ Wood l 1 then 1 else if 8 < dep l then 5 else 0 := by
  unfold lchk
  rw [if_neg (by omega), if_neg (by rw [ha]; simp)]
theorem all_take {l : List Nd} {k : Nat} (hk : k < l.length) (h : (l.take k).all nok = true) (hn : nok l[k] = true) : (l.take (k + 1)).all nok = true := by
  rw [List.take_succ_eq_append_getElem hk, List.all_append, h]
  simp [hn]
theorem zc5 : (ncells zn).toArray = #[Value.int .i64 0, .int .i64 0, .int .i64 0, .int .i64 0, .string { data := #[] }] := rfl

set_option maxRecDepth 100000 in
set_option maxHeartbeats 3200000 in
theorem lcheck_any (A : Option Addr) (n c : Nat) (l : List Nd) (w : World) (hn : l.length = n) (hs : Sees w w.heap.size A (ncs l)) :
    Calls Try.prog 35 #[.slice A n c] w fun e w' => e = .returned (.int .i64 (lchk l)) ∧ Below w.heap.size w w' := by
  by_cases h31 : 31 < n
  · have HR := Lib.hid (lchk_long (by rw [hn]; exact h31))
    have d0 : decide ((31 : Int) < (n : Int)) = true := by simp; omega
    clear hs hn
    go_enter Try.func35, Try.ntmps35
    go_wp2_with fail
    go_ret
    exact ⟨by rw [HR.out]; rfl, Below.refl _ _⟩
  · have d0 : decide ((31 : Int) < (n : Int)) = false := by simp; omega
    have d0n : decide (31 < n) = false := by simp; omega
    have hu := Try.underlying71
    have hn31 : n ≤ 31 := by omega
    have HE := Lib.hid (fun wx (h : Sees wx w.heap.size A (ncs l)) => end_any A n c l 0 wx w.heap.size hn h (by omega))
    have HD := Lib.hid (fun wx (h : Sees wx wx.heap.size A (ncs l)) => depth_any A n c l wx hn h (by omega))
    have HN := Lib.hid hn
    have HBAD := Lib.hid (fun k (hk : k < l.length) (hb : nok l[k] = false) => lchk_bad (by rw [hn]; exact hn31) hk hb)
    have HALL := Lib.hid (fun (ha : l.all nok = true) => lchk_all (by rw [hn]; exact hn31) ha)
    obtain ⟨R, hR⟩ : ∃ R, R = lchk l := ⟨_, rfl⟩
    rw [← hR] at HBAD HALL ⊢
    clear hR hn h31
    go_enter Try.func35, Try.ntmps35
    go_wp2_with fail
    go_loopw [10] (fun i wr => ∃ k : Nat, k ≤ n ∧ i = .int .i64 k ∧ Hid ((l.take k).all nok = true) ∧ Below w.heap.size w wr) (fun i _ => n - (intOf i).toNat)
    case atStart => exact ⟨0, by omega, rfl, Lib.hid rfl, Below.refl _ _⟩
    case round =>
      obtain ⟨k, hk, rfl, HK, hbr⟩ := hrel
      by_cases hlt : k < n
      · have hkl : k < l.length := by rw [HN.out]; exact hlt
        have d1 : decide ((k : Int) < (n : Int)) = true := by simp; omega
        obtain ⟨b, o, rfl, hb, hcc, hc2, hrg⟩ := sees_node (hs.below hbr) k hkl
        clear hcc hc2
        have BN := Blk.new wr (ncells zn) 71
        have TH := BN.there 0 5 (by rw [ncells_len]; exact Nat.le_refl 5)
        have FIN := BN.sets (ncells l[k]) 0 (by rw [ncells_len, ncells_len]; exact Nat.le_refl 5)
        have e1 : (ncells zn).take 0 ++ ncells l[k] ++ (ncells zn).drop (0 + (ncells l[k]).length) = ncells l[k] := by simp [ncells]
        rw [e1] at FIN
        have hbz := hbr.size
        have HB2 := below_sets hbr.size (ncells l[k]) 0 (hbr.alloc hbr.size (.cells (ncells zn).toArray 71))
        have HC := Lib.hid (fun wx : World => node_any l[k] wx)
        have HONE := Lib.hid (show ∀ v ∈ ncells l[k], v.oneCell' = true from fun v hv => ncs_one [l[k]] v (by simpa [ncs] using hv))
        obtain ⟨R1, hR1⟩ : ∃ b, b = nok l[k] := ⟨_, rfl⟩
        have HR1 := Lib.hid hR1
        rw [← hR1] at HC
        obtain ⟨nc, hnc⟩ : ∃ nc, nc = ncells l[k] := ⟨_, rfl⟩
        have HSZ := Lib.hid (show nc.length = 5 by rw [hnc]; rfl)
        rw [← hnc] at hrg FIN HB2 HC HONE
        clear e1 hnc hR1 BN
        have RG := FIN.range 0 nc (by rw [HSZ.out, List.drop_zero, List.take_of_length_le (by rw [HSZ.out]; exact Nat.le_refl _)])
        clear FIN
        rw [zc5] at TH HB2 RG
        go_wp2_with (first
          | (refine wpList_load_mid rfl 71 (.tmp 12) rfl b (o + k * 5) rfl nc _ hrg hu rfl (by rw [HSZ.out]; exact info_node) ?_)
          | (refine wpList_store_mid rfl 71 (.tmp 4) (.tmp 13) rfl wr.heap.size 0 nc.toArray rfl rfl (by simpa [HSZ.out] using TH) (by simpa [HSZ.out] using info_node) (all_oneCell_toArray HONE.out) ?_)
          | (refine wpList_load_mid rfl 71 (.tmp 4) rfl wr.heap.size 0 rfl nc _ RG hu rfl (by rw [HSZ.out]; exact info_node) ?_)
          | fail)
        refine (HC.out _).mono ?_
        rintro e w2 ⟨rfl, hb2⟩
        have hb3 := HB2.trans (hb2.mono HB2.size)
        clear RG TH hrg HB2 hb2
        cases R1 with
        | true =>
          go_wp2_with fail
          go_roundw
          case rel => exact ⟨k + 1, by omega, by go_num, Lib.hid (all_take hkl HK.out HR1.out.symm), hb3⟩
          case measure => simp [intOf]; omega
        | false =>
          have HRR := Lib.hid (HBAD.out k hkl HR1.out.symm)
          go_wp2_with fail
          go_ret
          exact ⟨by rw [HRR.out]; rfl, hb3⟩
      · obtain rfl : k = n := by omega
        have HRR := Lib.hid (HALL.out (by have := HK.out; rwa [List.take_of_length_le (by rw [HN.out]; exact Nat.le_refl _)] at this))
        by_cases hw : Wood l 1
        · have HE2 := HE
          rw [show endAt l 0 = (k : Int) by rw [(wood_end l).2 hw, HN.out]] at HE2
          have HR2 : Hid (R = if 8 < dep l then 5 else 0) := Lib.hid (by rw [HRR.out, if_neg (by simpa using hw)])
          obtain ⟨d, hd⟩ : ∃ d, d = dep l := ⟨_, rfl⟩
          rw [← hd] at HD HR2
          by_cases h8 : 8 < d
          · have d8 : decide ((8 : Int) < (d : Int)) = true := by simp; omega
            have HR3 : Hid (R = 5) := Lib.hid (by rw [HR2.out, if_pos h8])
            clear hd
            go_wp2_with fail
            refine (HE2.out _ (hs.below hbr)).mono ?_
            rintro e w2 ⟨rfl, rfl⟩
            go_wp2_with fail
            refine (HD.out _ ((hs.below hbr).more hbr.size)).mono ?_
            rintro e w2 ⟨rfl, hb2⟩
            go_wp2_with fail
            go_ret
            exact ⟨by rw [HR3.out]; rfl, hbr.trans (hb2.mono hbr.size)⟩
          · have d8 : decide ((8 : Int) < (d : Int)) = false := by simp; omega
            have HR3 : Hid (R = 0) := Lib.hid (by rw [HR2.out, if_neg h8])
            clear hd
            go_wp2_with fail
            refine (HE2.out _ (hs.below hbr)).mono ?_
            rintro e w2 ⟨rfl, rfl⟩
            go_wp2_with fail
            refine (HD.out _ ((hs.below hbr).more hbr.size)).mono ?_
            rintro e w2 ⟨rfl, hb2⟩
            go_wp2_with fail
            go_ret
            exact ⟨by rw [HR3.out]; rfl, hbr.trans (hb2.mono hbr.size)⟩
        · have HR2 : Hid (R = 1) := Lib.hid (by rw [HRR.out, if_pos hw])
          have b1 : (endAt l 0 != (k : Int)) = true := by
            rw [bne_iff_ne, ← HN.out]
            exact fun h => hw ((wood_end l).1 h)
          generalize endAt l 0 = z at HE b1
          clear hw
          go_wp2_with fail
          refine (HE.out _ (hs.below hbr)).mono ?_
          rintro e w2 ⟨rfl, rfl⟩
          go_wp2_with fail
          go_ret
          exact ⟨by rw [HR2.out]; rfl, hbr⟩

set_option maxRecDepth 100000 in
set_option maxHeartbeats 3200000 in
theorem rlcheck_any (A : Option Addr) (n c : Nat) (l : List Nd) (w : World) (hn : l.length = n) (hs : Sees w w.heap.size A (ncs l)) (hc : n ≤ c) :
    Calls Try.prog 37 #[.slice A n c] w fun e w' => e = .returned (.int .i64 (lchk l)) ∧ Below w.heap.size w w' := by
  by_cases h31 : 31 < n
  · have HR := Lib.hid (lchk_long (by rw [hn]; exact h31))
    have d0 : decide ((31 : Int) < (n : Int)) = true := by simp; omega
    clear hs hn
    go_enter Try.func37, Try.ntmps37
    go_wp2_with fail
    go_ret
    exact ⟨by rw [HR.out]; rfl, Below.refl _ _⟩
  · have d0 : decide ((31 : Int) < (n : Int)) = false := by simp; omega
    have d0n : decide (31 < n) = false := by simp; omega
    have hu := Try.underlying71
    have hn31 : n ≤ 31 := by omega
    have HE := Lib.hid (fun wx (h : Sees wx w.heap.size A (ncs l)) => rend_any A n c l 0 wx w.heap.size hn h (by omega))
    have HD := Lib.hid (fun wx (h : Sees wx wx.heap.size A (ncs l)) => rdepth_any A n c l wx hn h hc (by omega))
    have HN := Lib.hid hn
    have HBAD := Lib.hid (fun k (hk : k < l.length) (hb : nok l[k] = false) => lchk_bad (by rw [hn]; exact hn31) hk hb)
    have HALL := Lib.hid (fun (ha : l.all nok = true) => lchk_all (by rw [hn]; exact hn31) ha)
    obtain ⟨R, hR⟩ : ∃ R, R = lchk l := ⟨_, rfl⟩
    rw [← hR] at HBAD HALL ⊢
    clear hR hn h31
    go_enter Try.func37, Try.ntmps37
    go_wp2_with fail
    go_loopw [3] (fun i wr => ∃ k : Nat, k ≤ n ∧ i = .int .i64 k ∧ Hid ((l.take k).all nok = true) ∧ Below w.heap.size w wr) (fun i _ => n - (intOf i).toNat)
    case atStart => exact ⟨0, by omega, rfl, Lib.hid rfl, Below.refl _ _⟩
    case round =>
      obtain ⟨k, hk, rfl, HK, hbr⟩ := hrel
      by_cases hlt : k < n
      · have hkl : k < l.length := by rw [HN.out]; exact hlt
        have d1 : decide ((k : Int) < (n : Int)) = true := by simp; omega
        obtain ⟨b, o, rfl, hb, hcc, hc2, hrg⟩ := sees_node (hs.below hbr) k hkl
        clear hcc hc2
        have HC := Lib.hid (fun wx : World => rnode_any l[k] wx)
        obtain ⟨R1, hR1⟩ : ∃ b, b = nok l[k] := ⟨_, rfl⟩
        have HR1 := Lib.hid hR1
        rw [← hR1] at HC
        obtain ⟨nc, hnc⟩ : ∃ nc, nc = ncells l[k] := ⟨_, rfl⟩
        have HSZ := Lib.hid (show nc.length = 5 by rw [hnc]; rfl)
        rw [← hnc] at hrg HC
        clear hnc hR1
        go_wp2_with (first
          | (refine wpList_load_mid rfl 71 (.tmp 15) rfl b (o + k * 5) rfl nc _ hrg hu rfl (by rw [HSZ.out]; exact info_node) ?_)
          | fail)
        refine (HC.out _).mono ?_
        rintro e w2 ⟨rfl, hb2⟩
        have hb3 := hbr.trans (hb2.mono hbr.size)
        clear hrg hb2
        cases R1 with
        | true =>
          go_wp2_with fail
          go_roundw
          case rel => exact ⟨k + 1, by omega, by go_num, Lib.hid (all_take hkl HK.out HR1.out.symm), hb3⟩
          case measure => simp [intOf]; omega
        | false =>
          have HRR := Lib.hid (HBAD.out k hkl HR1.out.symm)
          go_wp2_with fail
          go_ret
          exact ⟨by rw [HRR.out]; rfl, hb3⟩
      · obtain rfl : k = n := by omega
        have HRR := Lib.hid (HALL.out (by have := HK.out; rwa [List.take_of_length_le (by rw [HN.out]; exact Nat.le_refl _)] at this))
        by_cases h0 : k = 0
        · have b0 : ((k : Int) == 0) = true := by simp [h0]
          have HR2 : Hid (R = 1) := Lib.hid (by
            have : l = [] := List.length_eq_zero_iff.1 (by rw [HN.out]; exact h0)
            rw [HRR.out, this, if_pos (by unfold Wood; intro h; cases h)])
          clear h0
          go_wp2_with fail
          go_ret
          exact ⟨by rw [HR2.out]; rfl, hbr⟩
        · have b0 : ((k : Int) == 0) = false := by simp [h0]
          by_cases hw : Wood l 1
          · have HE2 := HE
            rw [show endAt l 0 = (k : Int) by rw [(wood_end l).2 hw, HN.out]] at HE2
            have HR2 : Hid (R = if 8 < dep l then 5 else 0) := Lib.hid (by rw [HRR.out, if_neg (by simpa using hw)])
            obtain ⟨d, hd⟩ : ∃ d, d = dep l := ⟨_, rfl⟩
            rw [← hd] at HD HR2
            by_cases h8 : 8 < d
            · have d8 : decide ((8 : Int) < (d : Int)) = true := by simp; omega
              have HR3 : Hid (R = 5) := Lib.hid (by rw [HR2.out, if_pos h8])
              clear hd h0
              go_wp2_with fail
              refine (HE2.out _ (hs.below hbr)).mono ?_
              rintro e w2 ⟨rfl, rfl⟩
              go_wp2_with fail
              refine (HD.out _ ((hs.below hbr).more hbr.size)).mono ?_
              rintro e w2 ⟨rfl, hb2⟩
              go_wp2_with fail
              go_ret
              exact ⟨by rw [HR3.out]; rfl, hbr.trans (hb2.mono hbr.size)⟩
            · have d8 : decide ((8 : Int) < (d : Int)) = false := by simp; omega
              have HR3 : Hid (R = 0) := Lib.hid (by rw [HR2.out, if_neg h8])
              clear hd h0
              go_wp2_with fail
              refine (HE2.out _ (hs.below hbr)).mono ?_
              rintro e w2 ⟨rfl, rfl⟩
              go_wp2_with fail
              refine (HD.out _ ((hs.below hbr).more hbr.size)).mono ?_
              rintro e w2 ⟨rfl, hb2⟩
              go_wp2_with fail
              go_ret
              exact ⟨by rw [HR3.out]; rfl, hbr.trans (hb2.mono hbr.size)⟩
          · have HR2 : Hid (R = 1) := Lib.hid (by rw [HRR.out, if_pos hw])
            have b1 : (endAt l 0 != (k : Int)) = true := by
              rw [bne_iff_ne, ← HN.out]
              exact fun h => hw ((wood_end l).1 h)
            generalize endAt l 0 = z at HE b1
            clear hw h0
            go_wp2_with fail
            refine (HE.out _ (hs.below hbr)).mono ?_
            rintro e w2 ⟨rfl, rfl⟩
            go_wp2_with fail
            go_ret
            exact ⟨by rw [HR2.out]; rfl, hbr⟩

/-- Which lists are too long to look at. -/
def lbig (l : List Nd) : Bool := decide (100 < l.length) || l.any fun n => decide (200 < n.2.2.2.2.size)
set_option maxRecDepth 100000 in
set_option maxHeartbeats 3200000 in
theorem nlarge_any (A : Option Addr) (n c : Nat) (l : List Nd) (w : World) (B : Nat) (hn : l.length = n) (hs : Sees w B A (ncs l)) :
    Calls Try.prog 7 #[.slice A n c] w fun e w' => e = .returned (.bool (lbig l)) ∧ w = w' := by
  by_cases h31 : 100 < n
  · have HR : Hid (lbig l = true) := Lib.hid (by unfold lbig; rw [hn, decide_eq_true h31]; rfl)
    have d0 : decide ((100 : Int) < (n : Int)) = true := by simp; omega
    clear hs hn
    go_enter Try.func7, Try.ntmps7
    go_wp2_with fail
    go_ret
    exact ⟨by rw [HR.out]; rfl, rfl⟩
  · have d0 : decide ((100 : Int) < (n : Int)) = false := by simp; omega
    have d0n : decide (100 < n) = false := by simp; omega
    have HR : Hid (lbig l = l.any fun n => decide (200 < n.2.2.2.2.size)) := Lib.hid (by unfold lbig; rw [hn, decide_eq_false h31]; rfl)
    have HN := Lib.hid hn
    have hn31 : n ≤ 100 := by omega
    obtain ⟨R, hR⟩ : ∃ R, R = lbig l := ⟨_, rfl⟩
    rw [← hR] at HR ⊢
    clear hR hn h31
    go_enter Try.func7, Try.ntmps7
    go_wp2_with fail
    go_loop [3] (fun i => ∃ k : Nat, k ≤ n ∧ i = .int .i64 k ∧ Hid (((l.take k).any fun n => decide (200 < n.2.2.2.2.size)) = false)) (fun i => n - (intOf i).toNat)
    case atStart => exact ⟨0, by omega, rfl, Lib.hid rfl⟩
    case round =>
      obtain ⟨k, hk, rfl, HK⟩ := hrel
      by_cases hlt : k < n
      · have hkl : k < l.length := by rw [HN.out]; exact hlt
        have d1 : decide ((k : Int) < (n : Int)) = true := by simp; omega
        obtain ⟨b, o, rfl, hb, hcc, hc2, hrg⟩ := sees_node hs k hkl
        have hcs : w.cell? ⟨b, o + k * 5 + 4, none⟩ = some (.string l[k].2.2.2.2) := hrg 4 _ rfl
        clear hcc hc2 hrg
        have HN2 : Hid (((l.take (k + 1)).any fun n => decide (200 < n.2.2.2.2.size)) = decide (200 < l[k].2.2.2.2.size)) := Lib.hid (by
          rw [List.take_succ_eq_append_getElem hkl, List.any_append, HK.out]
          simp)
        have HTR : Hid (((l.take (k + 1)).any fun n => decide (200 < n.2.2.2.2.size)) = true → R = true) := Lib.hid (fun h => by
          rw [HR.out, ← List.take_append_drop (k + 1) l, List.any_append, h]
          rfl)
        obtain ⟨s, hs2⟩ : ∃ s, s = l[k].2.2.2.2 := ⟨_, rfl⟩
        rw [← hs2] at hcs HN2
        clear hs2
        by_cases hgt : 200 < s.size
        · have d2 : decide ((200 : Int) < (s.size : Int)) = true := by simp; omega
          have HRR : Hid (R = true) := Lib.hid (HTR.out (by rw [HN2.out, decide_eq_true hgt]))
          go_wp2_with fail
          go_ret
          exact ⟨by rw [HRR.out]; rfl, rfl⟩
        · have d2 : decide ((200 : Int) < (s.size : Int)) = false := by simp; omega
          have HK2 := Lib.hid (HN2.out.trans (decide_eq_false hgt))
          go_wp2_with fail
          go_round
          case rel => exact ⟨k + 1, by omega, by go_num, HK2⟩
          case measure => simp [intOf]; omega
      · obtain rfl : k = n := by omega
        have HRR : Hid (R = false) := Lib.hid (by have := HK.out; rw [List.take_of_length_le (by rw [HN.out]; exact Nat.le_refl _)] at this; rw [HR.out, this])
        go_wp2_with fail
        go_ret
        exact ⟨by rw [HRR.out]; rfl, rfl⟩
end Go.Proofs.Ytadmaalhhigbeaa

/- The order of filters: what slices.CompareFunc, the program's Compare and the document's return. -/
namespace Go.Proofs.Ytadmaalhhigbeaa
set_option linter.unusedVariables false
set_option linter.unusedSimpArgs false
open Go Go.RowKit BitM ValM

theorem node_there (w : World) : (w.alloc (.cells #[.int .i64 0, .int .i64 0, .int .i64 0, .int .i64 0, .string ⟨#[]⟩] 71)).there w.heap.size 0 5 := (Blk.new w (ncells zn) 71).there 0 5 (by rw [ncells_len]; exact Nat.le_refl 5)
set_option maxHeartbeats 1600000 in
theorem node_put (w W : World) (n : Nd) (nc : List Value) (hnc : nc = ncells n) (hW : W = (w.alloc (.cells #[.int .i64 0, .int .i64 0, .int .i64 0, .int .i64 0, .string ⟨#[]⟩] 71)).setCells w.heap.size 0 nc) : Blk W w.heap.size nc ∧ Below w.heap.size w W ∧ W.heap.size = w.heap.size + 1 := by
  subst hnc hW
  have BN := Blk.new w (ncells zn) 71
  have FIN := BN.sets (ncells n) 0 (by rw [ncells_len, ncells_len]; exact Nat.le_refl 5)
  have e1 : (ncells zn).take 0 ++ ncells n ++ (ncells zn).drop (0 + (ncells n).length) = ncells n := by simp [ncells]
  rw [e1] at FIN
  exact ⟨FIN, below_sets (Nat.le_refl w.heap.size) (ncells n) 0 ((Below.refl w.heap.size w).alloc (Nat.le_refl _) (.cells (ncells zn).toArray 71)), by rw [size_sets]; simp⟩
theorem node_one (n : Nd) : ∀ v ∈ ncells n, v.oneCell' = true := fun v hv => ncs_one [n] v (by simpa [ncs] using hv)

set_option maxRecDepth 100000 in
set_option maxHeartbeats 3200000 in
theorem cmpfunc_any (A : Option Addr) (n c : Nat) (l : List Nd) (A' : Option Addr) (n' c' : Nat) (m : List Nd) (w : World) (hn : l.length = n) (hn' : m.length = n') (hs : Sees w w.heap.size A (ncs l)) (hs' : Sees w w.heap.size A' (ncs m)) (hm : n ≤ 65536) :
    Calls Try.prog 75 #[.slice A n c, .slice A' n' c', (.func (.func 76) #[] #[])] w fun e w' => e = .returned (.int .i64 (lcmp l m)) ∧ Below w.heap.size w w' := by
  have HN := Lib.hid hn
  have HN' := Lib.hid hn'
  have hu := Try.underlying71
  obtain ⟨R, hR⟩ : ∃ R, R = lcmp l m := ⟨_, rfl⟩
  have HR := Lib.hid hR
  rw [← hR]
  clear hn hn' hR
  go_enter Try.func75, Try.ntmps75
  go_wp2_with fail
  go_loopw [13] (fun i wr => ∃ k : Nat, k ≤ n ∧ k ≤ n' ∧ i = .int .i64 k ∧ Hid (R = lcmp (l.drop k) (m.drop k)) ∧ Below w.heap.size w wr) (fun i _ => n - (intOf i).toNat)
  case atStart => exact ⟨0, Nat.zero_le _, Nat.zero_le _, rfl, Lib.hid (by rw [HR.out]; rfl), Below.refl _ _⟩
  case round =>
    obtain ⟨k, hk, hk', rfl, HP, hbr⟩ := hrel
    by_cases hlt : k < n
    · have d1 : decide ((k : Int) < (n : Int)) = true := by simp; omega
      have hkl : k < l.length := by rw [HN.out]; exact hlt
      obtain ⟨b, o, rfl, hb, hcc, hc2, hrg⟩ := sees_node ((hs.below hbr).more hbr.size) k hkl
      clear hcc hc2
      obtain ⟨nc, hnc⟩ : ∃ nc, nc = ncells l[k] := ⟨_, rfl⟩
      obtain ⟨W1, hW1⟩ : ∃ W1, W1 = (wr.alloc (.cells #[.int .i64 0, .int .i64 0, .int .i64 0, .int .i64 0, .string ⟨#[]⟩] 71)).setCells wr.heap.size 0 nc := ⟨_, rfl⟩
      obtain ⟨F1, B1, z1⟩ := node_put wr W1 l[k] nc hnc hW1
      have TH1 := node_there wr
      have HW1 := Lib.hid hW1
      have HSZ := Lib.hid (show nc.length = 5 by rw [hnc]; rfl)
      have HONE := Lib.hid (hnc ▸ node_one l[k])
      rw [← hnc] at hrg
      by_cases hlt' : k < n'
      · have d2 : decide ((k : Int) ≥ (n' : Int)) = false := by simp; omega
        have d3 : decide ((n' : Int) ≤ (k : Int)) = false := by simp; omega
        have hkm : k < m.length := by rw [HN'.out]; exact hlt'
        have hbr1 := hbr.trans (B1.mono hbr.size)
        obtain ⟨b', o', rfl, hb', hcc', hc2', hrg'⟩ := sees_node ((hs'.below hbr1).more hbr1.size) k hkm
        clear hcc' hc2'
        obtain ⟨mc, hmc⟩ : ∃ mc, mc = ncells m[k] := ⟨_, rfl⟩
        obtain ⟨W2, hW2⟩ : ∃ W2, W2 = (W1.alloc (.cells #[.int .i64 0, .int .i64 0, .int .i64 0, .int .i64 0, .string ⟨#[]⟩] 71)).setCells W1.heap.size 0 mc := ⟨_, rfl⟩
        obtain ⟨F2, B2, z2⟩ := node_put W1 W2 m[k] mc hmc hW2
        have TH2 := node_there W1
        have HW2 := Lib.hid hW2
        have HSZ2 := Lib.hid (show mc.length = 5 by rw [hmc]; rfl)
        have HONE2 := Lib.hid (hmc ▸ node_one m[k])
        rw [← hmc] at hrg'
        have RG1 := Lib.hid ((F1.later B2).range 0 nc (by simp))
        have RG2 := Lib.hid (F2.range 0 mc (by simp))
        have hbr2 := Lib.hid (hbr1.trans (B2.mono hbr1.size))
        have HC := Lib.hid (fun wx : World => ncompare_any l[k] m[k] wx)
        rw [← hnc, ← hmc] at HC
        have HX := Lib.hid (lcmp_at l m k hkl hkm)
        obtain ⟨q, hq⟩ : ∃ q, q = ncmp l[k] m[k] := ⟨_, rfl⟩
        rw [← hq] at HC HX
        clear hnc hmc hW1 hW2 F1 F2 hbr hbr1 B1 B2 z1 z2 hq
        have HARMS : True := trivial
        by_cases hq0 : q = 0
        · subst hq0
          have HX2 : Hid (R = lcmp (l.drop (k + 1)) (m.drop (k + 1))) := Lib.hid (by rw [HP.out, HX.out]; simp)
          clear HX HP
          go_wp2_with (first
            | (refine wpList_load_mid rfl 71 (.tmp 16) rfl b (o + k * 5) rfl nc _ hrg hu rfl (by rw [HSZ.out]; exact info_node) ?_)
            | (refine wpList_store_mid rfl 71 (.tmp 8) (.tmp 17) rfl wr.heap.size 0 nc.toArray rfl rfl (by simpa [HSZ.out] using TH1) (by simpa [HSZ.out] using info_node) (all_oneCell_toArray HONE.out) ?_
               rw [show (wr.alloc (.cells #[.int .i64 0, .int .i64 0, .int .i64 0, .int .i64 0, .string ⟨#[]⟩] 71)).setCells wr.heap.size 0 nc.toArray.toList = W1 from HW1.out.symm])
            | (refine wpList_load_mid rfl 71 (.tmp 24) rfl b' (o' + k * 5) rfl mc _ hrg' hu rfl (by rw [HSZ2.out]; exact info_node) ?_)
            | (refine wpList_store_mid rfl 71 (.tmp 9) (.tmp 25) rfl W1.heap.size 0 mc.toArray rfl rfl (by simpa [HSZ2.out] using TH2) (by simpa [HSZ2.out] using info_node) (all_oneCell_toArray HONE2.out) ?_
               rw [show (W1.alloc (.cells #[.int .i64 0, .int .i64 0, .int .i64 0, .int .i64 0, .string ⟨#[]⟩] 71)).setCells W1.heap.size 0 mc.toArray.toList = W2 from HW2.out.symm])
            | (refine wpList_load_mid rfl 71 (.tmp 8) rfl wr.heap.size 0 rfl nc _ RG1.out hu rfl (by rw [HSZ.out]; exact info_node) ?_)
            | (refine wpList_load_mid rfl 71 (.tmp 9) rfl W1.heap.size 0 rfl mc _ RG2.out hu rfl (by rw [HSZ2.out]; exact info_node) ?_)
            | fail)
          refine (HC.out _).mono ?_
          rintro e w3 ⟨rfl, hb3⟩
          have hb4 := hbr2.out.trans (hb3.mono hbr2.out.size)
          clear TH1 TH2 hrg hrg' RG1 RG2 HC hb3 hbr2
          go_wp2_with fail
          go_roundw
          case rel => exact ⟨k + 1, by omega, by omega, by go_num, HX2, hb4⟩
          case measure => simp [intOf]; omega
        · have n1 : (q != 0) = true := by simpa using hq0
          have HX2 : Hid (R = q) := Lib.hid (by rw [HP.out, HX.out, if_pos hq0])
          clear HX HP hq0
          go_wp2_with (first
            | (refine wpList_load_mid rfl 71 (.tmp 16) rfl b (o + k * 5) rfl nc _ hrg hu rfl (by rw [HSZ.out]; exact info_node) ?_)
            | (refine wpList_store_mid rfl 71 (.tmp 8) (.tmp 17) rfl wr.heap.size 0 nc.toArray rfl rfl (by simpa [HSZ.out] using TH1) (by simpa [HSZ.out] using info_node) (all_oneCell_toArray HONE.out) ?_
               rw [show (wr.alloc (.cells #[.int .i64 0, .int .i64 0, .int .i64 0, .int .i64 0, .string ⟨#[]⟩] 71)).setCells wr.heap.size 0 nc.toArray.toList = W1 from HW1.out.symm])
            | (refine wpList_load_mid rfl 71 (.tmp 24) rfl b' (o' + k * 5) rfl mc _ hrg' hu rfl (by rw [HSZ2.out]; exact info_node) ?_)
            | (refine wpList_store_mid rfl 71 (.tmp 9) (.tmp 25) rfl W1.heap.size 0 mc.toArray rfl rfl (by simpa [HSZ2.out] using TH2) (by simpa [HSZ2.out] using info_node) (all_oneCell_toArray HONE2.out) ?_
               rw [show (W1.alloc (.cells #[.int .i64 0, .int .i64 0, .int .i64 0, .int .i64 0, .string ⟨#[]⟩] 71)).setCells W1.heap.size 0 mc.toArray.toList = W2 from HW2.out.symm])
            | (refine wpList_load_mid rfl 71 (.tmp 8) rfl wr.heap.size 0 rfl nc _ RG1.out hu rfl (by rw [HSZ.out]; exact info_node) ?_)
            | (refine wpList_load_mid rfl 71 (.tmp 9) rfl W1.heap.size 0 rfl mc _ RG2.out hu rfl (by rw [HSZ2.out]; exact info_node) ?_)
            | fail)
          refine (HC.out _).mono ?_
          rintro e w3 ⟨rfl, hb3⟩
          have hb4 := hbr2.out.trans (hb3.mono hbr2.out.size)
          clear TH1 TH2 hrg hrg' RG1 RG2 HC hb3 hbr2
          go_wp2_with fail
          go_ret
          exact ⟨by rw [HX2.out]; rfl, hb4⟩
      · obtain rfl : k = n' := by omega
        have HX2 : Hid (R = 1) := Lib.hid (by rw [HP.out, lcmp_none l m k (by omega) (by rw [HN'.out]; exact Nat.le_refl _) (.inr HN'.out.symm), HN.out, HN'.out, if_neg (by omega), if_pos hlt])
        have hbr1 := Lib.hid (hbr.trans (B1.mono hbr.size))
        clear hnc hW1 F1 hbr B1 z1 HP
        go_wp2_with (first
          | (refine wpList_load_mid rfl 71 (.tmp 16) rfl b (o + k * 5) rfl nc _ hrg hu rfl (by rw [HSZ.out]; exact info_node) ?_)
          | (refine wpList_store_mid rfl 71 (.tmp 8) (.tmp 17) rfl wr.heap.size 0 nc.toArray rfl rfl (by simpa [HSZ.out] using TH1) (by simpa [HSZ.out] using info_node) (all_oneCell_toArray HONE.out) ?_
             rw [show (wr.alloc (.cells #[.int .i64 0, .int .i64 0, .int .i64 0, .int .i64 0, .string ⟨#[]⟩] 71)).setCells wr.heap.size 0 nc.toArray.toList = W1 from HW1.out.symm])
          | fail)
        go_ret
        exact ⟨by rw [HX2.out]; rfl, hbr1.out⟩
    · obtain rfl : k = n := by omega
      have HX : Hid (R = if k < n' then -1 else 0) := Lib.hid (by
        rw [HP.out, lcmp_none l m k (by rw [HN.out]; exact Nat.le_refl _) (by rw [HN'.out]; exact hk') (.inl HN.out.symm), HN.out, HN'.out]
        rw [if_neg (show ¬ n' < k by omega)])
      by_cases hlt' : k < n'
      · have d2 : decide ((k : Int) < (n' : Int)) = true := by simp; omega
        have HX2 : Hid (R = -1) := Lib.hid (by rw [HX.out, if_pos hlt'])
        clear HX HP
        go_wp2_with fail
        go_ret
        exact ⟨by rw [HX2.out]; rfl, hbr⟩
      · obtain rfl : k = n' := by omega
        have HX2 : Hid (R = 0) := Lib.hid (by rw [HX.out, if_neg hlt'])
        clear HX HP
        go_wp2_with fail
        go_ret
        exact ⟨by rw [HX2.out]; rfl, hbr⟩

set_option maxHeartbeats 1600000 in
theorem lcompare_any (A : Option Addr) (n c : Nat) (l : List Nd) (A' : Option Addr) (n' c' : Nat) (m : List Nd) (w : World) (hn : l.length = n) (hn' : m.length = n') (hs : Sees w w.heap.size A (ncs l)) (hs' : Sees w w.heap.size A' (ncs m)) (hm : n ≤ 65536) :
    Calls Try.prog 46 #[.slice A n c, .slice A' n' c'] w fun e w' => e = .returned (.int .i64 (lcmp l m)) ∧ Below w.heap.size w w' := by
  have H := Lib.hid (cmpfunc_any A n c l A' n' c' m w hn hn' hs hs' hm)
  clear hn hn' hs hs' hm
  go_enter Try.func46, Try.ntmps46
  go_wp2_with fail
  refine H.out.mono ?_
  rintro e w1 ⟨rfl, hb⟩
  go_wp2_with fail
  go_ret
  exact ⟨rfl, hb⟩

end Go.Proofs.Ytadmaalhhigbeaa

/- Ledger: answers as they lie, and which may be: maths. -/
namespace Go.Proofs.Ytadmaalhhigbeaa
set_option linter.unusedVariables false
set_option linter.unusedSimpArgs false
open Go Go.RowKit ValM

theorem ncmp_zero (a b : Nd) : ncmp a b = 0 ↔ a = b := by
  unfold ncmp
  by_cases h1 : cmpI a.1 b.1 = 0
  · rw [if_neg (fun h => h h1)]
    by_cases h2 : cmpI a.2.1 b.2.1 = 0
    · rw [if_neg (fun h => h h2), vcmp_zero]
      rw [cmpI_zero] at h1 h2
      constructor
      · intro h; exact Prod.ext h1 (Prod.ext h2 h)
      · intro h; rw [h]
    · rw [if_pos h2]
      constructor
      · intro h; exact absurd h h2
      · intro h; rw [h] at h2; exact absurd ((cmpI_zero _ _).2 rfl) h2
  · rw [if_pos h1]
    constructor
    · intro h; exact absurd h h1
    · intro h; rw [h] at h1; exact absurd ((cmpI_zero _ _).2 rfl) h1
theorem lcmp_zero : ∀ (l m : List Nd), lcmp l m = 0 ↔ l = m
  | [], [] => by simp [lcmp]
  | [], _ :: _ => by simp [lcmp]
  | _ :: _, [] => by simp [lcmp]
  | a :: l, b :: m => by
    unfold lcmp
    by_cases h : ncmp a b = 0
    · rw [if_neg (fun x => x h), lcmp_zero l m]
      rw [ncmp_zero] at h
      subst h
      simp
    · rw [if_pos h]
      constructor
      · intro x; exact absurd x h
      · intro x; injection x with x1 _; exact absurd ((ncmp_zero a b).2 x1) h
/-- An answer as it lies. -/
structure Rp where
  kd : Int
  dv : Int
  rq : Int
  cd : Int
  id : Int
  vr : Int
  sq : Int
  ep : Int
  A : Option Addr
  n : Nat
  c : Nat
  f : List Nd
  ms : BitVec 32
def rpc (r : Rp) : List Value := [.int .i64 r.kd, .int .i64 r.dv, .int .i64 r.rq, .int .i64 r.cd, .int .i64 r.id, .int .i64 r.vr, .int .i64 r.sq, .int .i64 r.ep, .slice r.A r.n r.c, .int .u32 (r.ms.toNat : Int)]
theorem rpc_len (r : Rp) : (rpc r).length = 10 := rfl
theorem rpc_one (r : Rp) : ∀ v ∈ rpc r, v.oneCell' = true := by
  intro v hv
  simp only [rpc, List.mem_cons, List.not_mem_nil, or_false] at hv
  rcases hv with rfl | rfl | rfl | rfl | rfl | rfl | rfl | rfl | rfl | rfl <;> rfl
structure okRp (w : World) (r : Rp) : Prop where
  len : r.f.length = r.n
  cap : r.n ≤ r.c
  max : r.c ≤ maxLen
  see : Sees w w.heap.size r.A (ncs r.f)
theorem okRp.later {w w' : World} {r : Rp} (h : okRp w r) (hb : Below w.heap.size w w') : okRp w' r := ⟨h.len, h.cap, h.max, (h.see.below hb).more hb.size⟩
def zrp : Rp := ⟨0, 0, 0, 0, 0, 0, 0, 0, none, 0, 0, [], 0#32⟩
theorem okRp.zero (w : World) : okRp w zrp := ⟨rfl, Nat.le_refl _, by simp [zrp, maxLen], Sees.nil_⟩
/-- An answer, apart from where its filter lies. -/
abbrev Rq := Int × Int × Int × Int × Int × Int × Int × Int × List Nd × BitVec 32
def rab (r : Rp) : Rq := (r.kd, r.dv, r.rq, r.cd, r.id, r.vr, r.sq, r.ep, r.f, r.ms)
noncomputable instance (r r' : Rp) : Decidable (rab r = rab r') := Classical.propDecidable _
def zrq : Rq := (0, 0, 0, 0, 0, 0, 0, 0, [], 0#32)
theorem rab_zero : rab zrp = zrq := rfl
theorem rab_kd {r r' : Rp} (e : rab r = rab r') : r.kd = r'.kd := congrArg (fun q : Rq => q.1) e
theorem rab_dv {r r' : Rp} (e : rab r = rab r') : r.dv = r'.dv := congrArg (fun q : Rq => q.2.1) e
theorem rab_rq {r r' : Rp} (e : rab r = rab r') : r.rq = r'.rq := congrArg (fun q : Rq => q.2.2.1) e
theorem rab_cd {r r' : Rp} (e : rab r = rab r') : r.cd = r'.cd := congrArg (fun q : Rq => q.2.2.2.1) e
theorem rab_id {r r' : Rp} (e : rab r = rab r') : r.id = r'.id := congrArg (fun q : Rq => q.2.2.2.2.1) e
theorem rab_vr {r r' : Rp} (e : rab r = rab r') : r.vr = r'.vr := congrArg (fun q : Rq => q.2.2.2.2.2.1) e
theorem rab_sq {r r' : Rp} (e : rab r = rab r') : r.sq = r'.sq := congrArg (fun q : Rq => q.2.2.2.2.2.2.1) e
theorem rab_ep {r r' : Rp} (e : rab r = rab r') : r.ep = r'.ep := congrArg (fun q : Rq => q.2.2.2.2.2.2.2.1) e
theorem rab_f {r r' : Rp} (e : rab r = rab r') : r.f = r'.f := congrArg (fun q : Rq => q.2.2.2.2.2.2.2.2.1) e
theorem rab_ms {r r' : Rp} (e : rab r = rab r') : r.ms = r'.ms := congrArg (fun q : Rq => q.2.2.2.2.2.2.2.2.2) e
theorem rab_eq {r r' : Rp} (h0 : r.kd = r'.kd) (h1 : r.dv = r'.dv) (h2 : r.rq = r'.rq) (h3 : r.cd = r'.cd) (h4 : r.id = r'.id) (h5 : r.vr = r'.vr) (h6 : r.sq = r'.sq) (h7 : r.ep = r'.ep) (h8 : r.f = r'.f) (h9 : r.ms = r'.ms) : rab r = rab r' := by
  unfold rab
  rw [h0, h1, h2, h3, h4, h5, h6, h7, h8, h9]
theorem rab_iff (r r' : Rp) : rab r = rab r' ↔ r.kd = r'.kd ∧ r.dv = r'.dv ∧ r.rq = r'.rq ∧ r.cd = r'.cd ∧ r.id = r'.id ∧ r.vr = r'.vr ∧ r.sq = r'.sq ∧ r.ep = r'.ep ∧ r.f = r'.f ∧ r.ms.toNat = r'.ms.toNat :=
  ⟨fun e => ⟨rab_kd e, rab_dv e, rab_rq e, rab_cd e, rab_id e, rab_vr e, rab_sq e, rab_ep e, rab_f e, congrArg BitVec.toNat (rab_ms e)⟩, fun ⟨h0, h1, h2, h3, h4, h5, h6, h7, h8, h9⟩ => rab_eq h0 h1 h2 h3 h4 h5 h6 h7 h8 (BitVec.eq_of_toNat_eq h9)⟩
theorem below_a1 (w : World) (o : Obj) : Below w.heap.size w (w.alloc o) := (Below.refl _ _).alloc (Nat.le_refl _) _
theorem below_a2 (w : World) (o o' : Obj) : Below w.heap.size w ((w.alloc o).alloc o') := (below_a1 w o).alloc (below_a1 w o).size _
theorem two_cells {w w3 : World} {cs cs' : List Value} {t t' : TypeId} (hb : Below ((w.alloc (.cells cs.toArray t)).alloc (.cells cs'.toArray t')).heap.size ((w.alloc (.cells cs.toArray t)).alloc (.cells cs'.toArray t')) w3) :
    (∀ j v, cs[j]? = some v → w3.cell? ⟨w.heap.size, j, none⟩ = some v) ∧ (∀ j v, cs'[j]? = some v → w3.cell? ⟨w.heap.size + 1, j, none⟩ = some v) := by
  have h1 := ((Blk.new w cs t).alloc (.cells cs'.toArray t')).later hb
  have h2 := (Blk.new (w.alloc (.cells cs.toArray t)) cs' t').later hb
  rw [show (w.alloc (.cells cs.toArray t)).heap.size = w.heap.size + 1 by simp] at h2
  exact ⟨fun j v hj => h1.cell hj, fun j v hj => h2.cell hj⟩
theorem mk_nat (a b : BitVec 32) (h : a.toNat = b.toNat) : a = b := BitVec.eq_of_toNat_eq h
end Go.Proofs.Ytadmaalhhigbeaa

/- Ledger: when two answers are the same. -/
namespace Go.Proofs.Ytadmaalhhigbeaa
set_option linter.unusedVariables false
set_option linter.unusedSimpArgs false
open Go Go.RowKit ValM

set_option maxRecDepth 100000 in
set_option maxHeartbeats 3200000 in
theorem lsame_any (r r' : Rp) (w : World) (h : okRp w r) (h' : okRp w r') (hz : r.n ≤ 65536) :
    Calls Try.prog 13 #[.agg (rpc r).toArray, .agg (rpc r').toArray] w fun e w' => e = .returned (.bool (decide (rab r = rab r'))) ∧ Below w.heap.size w w' := by
  have hc8 := fun W (hW : Below w.heap.size w W) => lcompare_any r.A r.n r.c r.f r'.A r'.n r'.c r'.f W h.len h'.len (h.later hW).see (h'.later hW).see hz
  obtain ⟨R, hR⟩ : ∃ R, R = decide (rab r = rab r') := ⟨_, rfl⟩
  rw [← hR]
  clear h h'
  obtain ⟨a0, a1, a2, a3, a4, a5, a6, a7, A, n, c, f, ms⟩ := r
  obtain ⟨b0, b1, b2, b3, b4, b5, b6, b7, B, n', c', f', ms'⟩ := r'
  dsimp only [rpc] at *
  obtain ⟨z8, hz8, hq8⟩ : ∃ z8 : Int, z8 = lcmp f f' ∧ (f = f' ↔ z8 = 0) := ⟨_, rfl, (lcmp_zero f f').symm⟩
  rw [← hz8] at hc8
  have hz8 := hq8
  have hR : R = decide (a0 = b0 ∧ a1 = b1 ∧ a2 = b2 ∧ a3 = b3 ∧ a4 = b4 ∧ a5 = b5 ∧ a6 = b6 ∧ a7 = b7 ∧ z8 = 0 ∧ ms.toNat = ms'.toNat) := by
    rw [hR]
    refine decide_eq_decide.2 ((rab_iff _ _).trans ?_)
    dsimp only
    rw [hz8]
  have HR := Lib.hid hR
  have HCMP := Lib.hid hc8
  clear hR hz8 hc8 hq8
  go_enter Try.func13, Try.ntmps13
  go_wp2_with fail
  all_goals (try (
    refine (HCMP.out _ (below_a2 _ _ _)).mono ?_
    rintro e w3 ⟨rfl, hb3⟩
    have kx := (two_cells hb3).1 9 _ rfl
    have ky := (two_cells hb3).2 9 _ rfl
    have HB3 := Lib.hid ((below_a2 _ _ _).trans (hb3.mono (below_a2 _ _ _).size))
    clear hb3
    go_wp2_with fail))
  all_goals
    go_ret
    refine ⟨?_, by first | exact HB3.out | exact below_a2 _ _ _⟩
    show Ending.returned (Value.bool _) = _
    rw [HR.out]
    refine congrArg (fun b => Ending.returned (Value.bool b)) (Bool.eq_iff_iff.2 ?_)
    simp only [decide_eq_true_eq, Bool.and_eq_true, Bool.or_eq_true, Bool.not_eq_true', decide_eq_false_iff_not, Bool.false_eq_true, beq_iff_eq, false_iff, true_iff]
    omega
end Go.Proofs.Ytadmaalhhigbeaa

/- Ledger: which numbers may be. -/
namespace Go.Proofs.Ytadmaalhhigbeaa
set_option linter.unusedVariables false
set_option linter.unusedSimpArgs false
open Go Go.RowKit ValM

set_option maxRecDepth 100000 in
set_option maxHeartbeats 1600000 in
theorem lgnum_any (x : Int) (w : World) : Calls Try.prog 34 #[.int .i64 x] w fun e w' => e = .returned (.bool (decide (0 ≤ x ∧ x ≤ 1099511627776))) ∧ w = w' := by
  obtain ⟨R, hR⟩ : ∃ R, R = decide (0 ≤ x ∧ x ≤ 1099511627776) := ⟨_, rfl⟩
  rw [← hR]
  have HR := Lib.hid hR
  clear hR
  go_enter Try.func34, Try.ntmps34
  go_wp2_with fail
  all_goals
    go_ret
    refine ⟨?_, rfl⟩
    show Ending.returned (Value.bool _) = _
    rw [HR.out]
    refine congrArg (fun b => Ending.returned (Value.bool b)) (Bool.eq_iff_iff.2 ?_)
    simp only [decide_eq_true_eq, Bool.and_eq_true, Bool.or_eq_true, Bool.not_eq_true', decide_eq_false_iff_not, Bool.false_eq_true, false_iff, true_iff]
    omega

set_option maxRecDepth 100000 in
set_option maxHeartbeats 1600000 in
theorem lgdev_any (x : Int) (w : World) : Calls Try.prog 32 #[.int .i64 x] w fun e w' => e = .returned (.bool (decide (0 ≤ x ∧ x < 6))) ∧ w = w' := by
  obtain ⟨R, hR⟩ : ∃ R, R = decide (0 ≤ x ∧ x < 6) := ⟨_, rfl⟩
  rw [← hR]
  have HR := Lib.hid hR
  clear hR
  go_enter Try.func32, Try.ntmps32
  go_wp2_with fail
  all_goals
    go_ret
    refine ⟨?_, rfl⟩
    show Ending.returned (Value.bool _) = _
    rw [HR.out]
    refine congrArg (fun b => Ending.returned (Value.bool b)) (Bool.eq_iff_iff.2 ?_)
    simp only [decide_eq_true_eq, Bool.and_eq_true, Bool.or_eq_true, Bool.not_eq_true', decide_eq_false_iff_not, Bool.false_eq_true, false_iff, true_iff]
    omega

set_option maxRecDepth 100000 in
set_option maxHeartbeats 1600000 in
theorem lgabove_any (x : Int) (w : World) : Calls Try.prog 33 #[.int .i64 x] w fun e w' => e = .returned (.bool (decide (1 ≤ x ∧ x ≤ 1099511627776))) ∧ w = w' := by
  obtain ⟨R, hR⟩ : ∃ R, R = decide (1 ≤ x ∧ x ≤ 1099511627776) := ⟨_, rfl⟩
  rw [← hR]
  have HR := Lib.hid hR
  clear hR
  go_enter Try.func33, Try.ntmps33
  go_wp2_with fail
  refine (lgnum_any x w).mono ?_
  rintro e w2 ⟨rfl, rfl⟩
  go_wp2_with fail
  all_goals
    go_ret
    refine ⟨?_, rfl⟩
    show Ending.returned (Value.bool _) = _
    rw [HR.out]
    refine congrArg (fun b => Ending.returned (Value.bool b)) (Bool.eq_iff_iff.2 ?_)
    simp only [decide_eq_true_eq, Bool.and_eq_true, Bool.or_eq_true, Bool.not_eq_true', decide_eq_false_iff_not, Bool.false_eq_true, false_iff, true_iff]
    omega
end Go.Proofs.Ytadmaalhhigbeaa

/- Rows of structs, whatever a struct's cells are: what lies there, and what the frame gives of such a slice. -/
namespace Go.Proofs.Ytadmaalhhigbeaa
set_option linter.unusedVariables false
open Go Go.RowKit Go.Deep Go.ChangeShapes Go.WideShapes Go.ChangeAt

section
variable {α : Type} {f : α → List Value} {sz : Nat}
/-- The cells of a list of structs, one behind the other. -/
def rws (f : α → List Value) (l : List α) : List Value := l.flatMap f
theorem rws_nil (f : α → List Value) : rws f [] = [] := rfl
theorem rws_cons (f : α → List Value) (x : α) (l : List α) : rws f (x :: l) = f x ++ rws f l := rfl
theorem rws_one (f : α → List Value) (x : α) : rws f [x] = f x := by simp [rws]
theorem rws_append (f : α → List Value) (l m : List α) : rws f (l ++ m) = rws f l ++ rws f m := by simp [rws]
theorem rws_len : ∀ l : List α, (∀ x ∈ l, (f x).length = sz) → (rws f l).length = l.length * sz
  | [], _ => by simp [rws]
  | x :: l, h => by
    rw [rws_cons, List.length_append, rws_len l (fun y hy => h y (List.mem_cons_of_mem _ hy)), h x List.mem_cons_self, List.length_cons, Nat.succ_mul]
    omega
theorem rws_drop : ∀ (l : List α) (k : Nat), (∀ x ∈ l, (f x).length = sz) → (rws f l).drop (k * sz) = rws f (l.drop k)
  | [], k, _ => by simp [rws]
  | x :: l, 0, _ => by simp
  | x :: l, k + 1, h => by
    have hx := h x List.mem_cons_self
    rw [rws_cons, List.drop_succ_cons, ← rws_drop l k (fun y hy => h y (List.mem_cons_of_mem _ hy)), show (k + 1) * sz = (f x).length + k * sz by rw [hx, Nat.succ_mul]; omega, List.drop_length_add_append]
theorem rws_take : ∀ (l : List α) (k : Nat), (∀ x ∈ l, (f x).length = sz) → (rws f l).take (k * sz) = rws f (l.take k)
  | [], k, _ => by simp [rws]
  | x :: l, 0, _ => by simp [rws]
  | x :: l, k + 1, h => by
    have hx := h x List.mem_cons_self
    rw [rws_cons, List.take_succ_cons, rws_cons, ← rws_take l k (fun y hy => h y (List.mem_cons_of_mem _ hy)), show (k + 1) * sz = (f x).length + k * sz by rw [hx, Nat.succ_mul]; omega, List.take_length_add_append]
theorem rws_at (l : List α) (hf : ∀ x ∈ l, (f x).length = sz) (k : Nat) (hk : k < l.length) (j : Nat) (v : Value) (hj : (f l[k])[j]? = some v) : (rws f l)[k * sz + j]? = some v := by
  have h1 : ((rws f l).drop (k * sz))[j]? = some v := by
    rw [rws_drop l k hf, List.drop_eq_getElem_cons hk, rws_cons]
    rw [List.getElem?_append_left (List.getElem?_eq_some_iff.1 hj).1]
    exact hj
  rw [List.getElem?_drop] at h1
  exact h1
theorem rws_get (l : List α) (hf : ∀ x ∈ l, (f x).length = sz) (k : Nat) (hk : k < l.length) : ((rws f l).drop (k * sz)).take sz = f l[k] := by
  have := hf _ (List.getElem_mem hk)
  rw [rws_drop l k hf, List.drop_eq_getElem_cons hk, rws_cons, List.take_append_of_le_length (by omega), List.take_of_length_le (by omega)]
theorem rws_mem {l : List α} {v : Value} (h : v ∈ rws f l) : ∃ x ∈ l, v ∈ f x := by
  simpa [rws] using h
theorem rws_all {l : List α} {P : Value → Prop} (h : ∀ x ∈ l, ∀ u ∈ f x, P u) : ∀ u ∈ rws f l, P u := fun u hu => by
  obtain ⟨x, hx, hu⟩ := rws_mem hu
  exact h x hx u hu
/-- An element of a row that is seen. -/
theorem sees_rw {w : World} {B : Nat} {A : Option Addr} {l : List α} (hf : ∀ x ∈ l, (f x).length = sz) (hs : Sees w B A (rws f l)) (hz : 0 < sz) (k : Nat) (hk : k < l.length) :
    ∃ b o, A = some ⟨b, o, none⟩ ∧ b < B ∧ w.rangeAt b (o + k * sz) (f l[k]) := by
  obtain ⟨b, o, e, hb, hc⟩ := hs (by rw [rws_len l hf]; exact Nat.mul_pos (by omega) hz)
  refine ⟨b, o, e, hb, fun j v hj => ?_⟩
  have h1 := rws_at l hf k hk j v hj
  obtain ⟨h2, h3⟩ := List.getElem?_eq_some_iff.1 h1
  have := hc (k * sz + j) h2
  rw [h3] at this
  rw [Nat.add_assoc]
  exact this
end

section
variable {H : Type} {enc : TypeId × Value → H} {W : World} {P : Program} {α : Type} [Inhabited α]
/-- What the frame gives of a slice of structs. -/
theorem open_rows {f : α → List Value} {sz : Nat} {ok : α → Prop} {t et : TypeId} (ht : P.underlying t = some (.slice et)) (hC : P.cellsOf et = sz) (hz : 0 < sz) (hf : ∀ z, ok z → (f z).length = sz)
    (hel : ∀ (n : Nat) (cs : List Value) (x : DataW H × List MemPlace), DataW.trod enc P W 0 (fun _ => true) true n et cs = some x → ∃ z, cs = f z ∧ ok z)
    {r : Reach} {base : Nat} {v : Value} {d : DataW H} {ps : List MemPlace}
    (hv : Value.okWide P W r base t v) (h : DataW.Trod enc P W 0 (fun _ => true) true t v d ps) :
    ∃ A n c, ∃ l : List α, v = .slice A n c ∧ n ≤ c ∧ c ≤ maxLen ∧ l.length = n ∧ (∀ z ∈ l, ok z) ∧ Sees W W.heap.size A (rws f l) := by
  obtain ⟨A, n, c, rfl⟩ := okWide_slice ht hv
  obtain ⟨fuel, hf0⟩ := h
  have hlt := DataW.trod_lt fuel _ _ _ hf0
  rcases open_slice ht hf0 with ⟨hcs, hx⟩ | ⟨x, n, c, m, fu, D, Pl, hcs, hb, hl, hm, hmm, hx, hcell⟩
  · simp [Value.cells] at hcs
    obtain ⟨rfl, rfl, rfl⟩ := hcs
    exact ⟨none, 0, 0, [], rfl, Nat.le_refl _, by simp [maxLen], rfl, by simp, Sees.nil_⟩
  · simp [Value.cells] at hcs
    obtain ⟨rfl, rfl, rfl⟩ := hcs
    simp only [if_true] at hmm
    subst hmm
    have each : ∀ i, i < n → ∃ z : α, (∀ j u, (f z)[j]? = some u → W.cell? (x.add (i * sz + j)) = some u) ∧ ok z := fun i hi => by
      obtain ⟨cs', h1, h2⟩ := hcell i (by omega)
      obtain ⟨z, rfl, okz⟩ := hel _ _ _ h2
      refine ⟨z, fun j u hj => ?_, okz⟩
      rw [hC] at h1
      obtain ⟨_, hlen, hc⟩ := World.cells?_some h1
      have hj5 : j < sz := by
        have := (List.getElem?_eq_some_iff.1 hj).1
        rwa [hf z okz] at this
      have e1 := hc j hj5
      rw [add_add] at e1
      rw [e1, hj]
    obtain ⟨g, hg⟩ := choose_lt (α := α) each
    have hlen : ((List.range n).map g).length = n := by simp
    have hok : ∀ z ∈ (List.range n).map g, ok z := fun z hz => by
      obtain ⟨i, hi, rfl⟩ := List.mem_map.1 hz
      exact (hg i (List.mem_range.1 hi)).2
    have hsz : ∀ z ∈ (List.range n).map g, (f z).length = sz := fun z hz => hf z (hok z hz)
    have hrl := rws_len _ hsz
    refine ⟨some x, n, m, (List.range n).map g, rfl, hl, hm, hlen, hok, fun hpos => ?_⟩
    rw [hrl, hlen] at hpos
    have hn0 : 0 < n := by
      rcases Nat.eq_zero_or_pos n with h0 | h0
      · rw [h0, Nat.zero_mul] at hpos; omega
      · exact h0
    have hfz : ∀ i (hi : i < n), (f (g i)).length = sz := fun i hi => hf _ (hg i hi).2
    have h0 := (hg 0 hn0).1 0 _ (List.getElem?_eq_getElem (by rw [hfz 0 hn0]; exact hz))
    obtain ⟨b, off, spot⟩ := x
    have hspot : spot = none := by simpa [Addr.add] using World.cell?_spot h0
    subst hspot
    refine ⟨b, off, rfl, ?_, fun j hj => ?_⟩
    · simp only [Prod.mk.injEq] at hx
      obtain ⟨_, rfl⟩ := hx
      have := hlt (.cell b off) (by simp [MemPlace.row, hC]; exact .inl (Nat.mul_pos (Nat.lt_of_lt_of_le hn0 hl) hz))
      simpa [MemPlace.block] using this
    · have hj2 := hj
      rw [hrl, hlen] at hj2
      have hjd : j / sz < n := Nat.div_lt_of_lt_mul (by rw [Nat.mul_comm]; exact hj2)
      have hjm : j % sz < sz := Nat.mod_lt _ hz
      have hjs : j / sz * sz + j % sz = j := by rw [Nat.mul_comm]; exact Nat.div_add_mod j sz
      have hk : j / sz < ((List.range n).map g).length := by rw [hlen]; exact hjd
      have e3 : ((List.range n).map g)[j / sz] = g (j / sz) := by simp
      have hjz : j % sz < (f (g (j / sz))).length := by rw [hfz _ hjd]; exact hjm
      have h3 : (f ((List.range n).map g)[j / sz])[j % sz]? = some ((f (g (j / sz)))[j % sz]'hjz) := by
        rw [e3]
        exact List.getElem?_eq_getElem hjz
      have h4 := rws_at _ hsz (j / sz) hk (j % sz) _ h3
      rw [hjs, List.getElem?_eq_getElem hj] at h4
      have h5 := (hg (j / sz) hjd).1 (j % sz) _ (List.getElem?_eq_getElem hjz)
      rw [hjs, add_at] at h5
      rw [h5]
      exact h4.symm
theorem trod_struct5 {w : World} {base : Nat} {spare : Nat → Bool} {held : Bool} {t : TypeId} {f0 f1 f2 f3 f4 : Field} {fuel : Nat} {cs : List Value} {x : DataW H × List MemPlace} (ht : P.underlying t = some (.struct #[f0, f1, f2, f3, f4])) (h : DataW.trod enc P w base spare held fuel t cs = some x) :
    ∃ y0 y1 y2 y3 y4 n, x = (.agg [y0.1, y1.1, y2.1, y3.1, y4.1], y0.2 ++ (y1.2 ++ (y2.2 ++ (y3.2 ++ y4.2)))) ∧ cs.length = P.cellsOf t ∧ DataW.trod enc P w base spare held n f0.type ((cs.drop f0.offset).take (P.cellsOf f0.type)) = some y0 ∧
      DataW.trod enc P w base spare held n f1.type ((cs.drop f1.offset).take (P.cellsOf f1.type)) = some y1 ∧ DataW.trod enc P w base spare held n f2.type ((cs.drop f2.offset).take (P.cellsOf f2.type)) = some y2 ∧
      DataW.trod enc P w base spare held n f3.type ((cs.drop f3.offset).take (P.cellsOf f3.type)) = some y3 ∧ DataW.trod enc P w base spare held n f4.type ((cs.drop f4.offset).take (P.cellsOf f4.type)) = some y4 := by
  obtain ⟨xs, n, _, rfl, hl, hlen, hf⟩ := DataW.trod_struct ht h
  match xs, hlen with
  | [y0, y1, y2, y3, y4], _ => exact ⟨y0, y1, y2, y3, y4, n, by simp, hl, by simpa using hf 0 f0 rfl, by simpa using hf 1 f1 rfl, by simpa using hf 2 f2 rfl, by simpa using hf 3 f3 rfl, by simpa using hf 4 f4 rfl⟩
/-- A list, of its pieces. -/
theorem list_cut (l : List Value) (a b : Nat) (h : (l.drop a).take b = (l.drop a).take b) : l.drop a = (l.drop a).take b ++ l.drop (a + b) := by
  rw [← List.drop_drop, List.take_append_drop]
theorem list5 {β : Type} {l : List β} {a b c d e : β} (hl : l.length = 5) (h0 : (l.drop 0).take 1 = [a]) (h1 : (l.drop 1).take 1 = [b]) (h2 : (l.drop 2).take 1 = [c]) (h3 : (l.drop 3).take 1 = [d]) (h4 : (l.drop 4).take 1 = [e]) : l = [a, b, c, d, e] := by
  match l, hl with
  | [x, y, z, u, v], _ => simp at h0 h1 h2 h3 h4; rw [h0, h1, h2, h3, h4]
end
end Go.Proofs.Ytadmaalhhigbeaa

/- Rows of structs that a call owns: a store of a whole struct into one. -/
namespace Go.Proofs.Ytadmaalhhigbeaa
set_option linter.unusedVariables false
open Go Go.RowKit

theorem heap_set1 {w : World} {g : Nat} {t : TypeId} {cs : List Value} (h : w.heap[g]? = some (.cells cs.toArray t (0, 0))) (j : Nat) (v : Value) : (w.setCell ⟨g, j, none⟩ v).heap[g]? = some (.cells (cs.set j v).toArray t (0, 0)) := by
  have hlt := (Array.getElem?_eq_some_iff.1 h).1
  obtain ⟨h1, h2⟩ := Array.getElem?_eq_some_iff.1 h
  show (w.heap.modify g _)[g]? = _
  rw [Array.getElem?_eq_getElem (by rw [Array.size_modify]; exact hlt), Array.getElem_modify_self, h2]
  simp
theorem heap_sets {t : TypeId} {g : Nat} : ∀ (vs : List Value) (o : Nat) {w : World} {cs : List Value}, w.heap[g]? = some (.cells cs.toArray t (0, 0)) → o + vs.length ≤ cs.length →
    (w.setCells g o vs).heap[g]? = some (.cells (cs.take o ++ vs ++ cs.drop (o + vs.length)).toArray t (0, 0))
  | [], o, w, cs, h, ho => by
    show w.heap[g]? = _
    rw [h]; simp
  | v :: vs, o, w, cs, h, ho => by
    simp only [List.length_cons] at ho
    have h2 := heap_sets vs (o + 1) (heap_set1 h o v) (by simp; omega)
    have e : (cs.set o v).take (o + 1) ++ vs ++ (cs.set o v).drop (o + 1 + vs.length) = cs.take o ++ (v :: vs) ++ cs.drop (o + (v :: vs).length) := by
      rw [List.take_succ_eq_append_getElem (by simp; omega), List.take_set_of_le (Nat.le_refl o), List.getElem_set_self, List.drop_set_of_lt (by omega)]
      simp [Nat.add_comm, Nat.add_left_comm]
    rw [e] at h2
    exact h2
theorem row_sets {α : Type} {f : α → List Value} {sz : Nat} {w : World} {base g n c : Nat} {e : TypeId} {l : List α} (hf : ∀ x ∈ l, (f x).length = sz) (h : w.ownsRow base e sz (.slice (some ⟨g, 0, none⟩) n c) n (rws f l)) (hn : l.length = n)
    (k : Nat) (hk : k < n) (x : α) (hx : (f x).length = sz) :
    (w.setCells g (k * sz) (f x)).ownsRow base e sz (.slice (some ⟨g, 0, none⟩) n c) n (rws f (l.set k x)) ∧ w.there g (k * sz) sz ∧ base ≤ g := by
  obtain ⟨h1, h2 | ⟨g', cap, cur, e1, e2, e3, e4, e5, e6, e7⟩⟩ := h
  · exact absurd h2.1 (by simp)
  · injection e1 with ea eb ec
    injection ea with ea
    injection ea with ea
    subst ea
    subst ec
    have hks : k * sz + sz ≤ n * sz := by rw [← Nat.succ_mul]; exact Nat.mul_le_mul_right _ hk
    have hncs : n * sz ≤ c * sz := Nat.mul_le_mul_right _ e4
    have hcl : cur.toList.length = c * sz := by rw [Array.length_toList]; exact e6
    have hrl := rws_len l hf
    rw [hn] at hrl
    have h3 : w.heap[g]? = some (.cells cur.toList.toArray e (0, 0)) := by rw [e3]
    have h4 := heap_sets (f x) (k * sz) h3 (by rw [hx, hcl]; omega)
    have hB : Blk w g cur.toList := ⟨e, h3⟩
    refine ⟨?_, hB.there _ _ (by rw [hcl]; omega), e2⟩
    have hfs : ∀ y ∈ l.set k x, (f y).length = sz := fun y hy => by
      rcases List.mem_or_eq_of_mem_set hy with h | h
      · exact hf y h
      · rw [h]; exact hx
    have hset : l.set k x = l.take k ++ x :: l.drop (k + 1) := by rw [List.set_eq_take_append_cons_drop, if_pos (by omega)]
    have hcur : cur.toList = rws f l ++ cur.toList.drop (n * sz) := by
      rw [← e7, List.take_append_drop]
    have t1 : cur.toList.take (k * sz) = rws f (l.take k) := by
      rw [hcur, List.take_append_of_le_length (by rw [hrl]; omega), rws_take l k hf]
    have t2 : cur.toList.drop (k * sz + (f x).length) = rws f (l.drop (k + 1)) ++ cur.toList.drop (n * sz) := by
      rw [hx, show k * sz + sz = (k + 1) * sz by rw [Nat.succ_mul]]
      conv => lhs; rw [hcur]
      rw [List.drop_append_of_le_length (by rw [hrl, Nat.succ_mul]; omega), rws_drop l (k + 1) hf]
    refine ⟨by rw [rws_len _ hfs, List.length_set, hn], .inr ⟨g, c, _, rfl, e2, h4, e4, e5, ?_, ?_⟩⟩
    · rw [List.size_toArray, List.length_append, List.length_append, List.length_take, List.length_drop, hcl, hx]
      omega
    · have e9 : (cur.toList.take (k * sz) ++ f x ++ cur.toList.drop (k * sz + (f x).length)) = rws f (l.set k x) ++ cur.toList.drop (n * sz) := by
        rw [t1, t2, hset, rws_append, rws_cons]
        simp only [List.append_assoc]
      rw [List.toList_toArray, e9, List.take_append_of_le_length (by rw [rws_len _ hfs, List.length_set, hn]; exact Nat.le_refl _), List.take_of_length_le (by rw [rws_len _ hfs, List.length_set, hn]; exact Nat.le_refl _)]
end Go.Proofs.Ytadmaalhhigbeaa

/- Ledger: which answers may be, by the program. -/
namespace Go.Proofs.Ytadmaalhhigbeaa
set_option linter.unusedVariables false
set_option linter.unusedSimpArgs false
open Go Go.RowKit ValM

/-- Which answers may be. -/
def rok (r : Rp) : Prop := (2 ≤ r.kd ∧ r.kd ≤ 4) ∧ (0 ≤ r.dv ∧ r.dv < 6) ∧ (1 ≤ r.rq ∧ r.rq ≤ 1099511627776) ∧ (0 ≤ r.cd ∧ r.cd ≤ 16) ∧
  (¬ r.cd = 0 → r.id = 0 ∧ r.vr = 0 ∧ r.sq = 0 ∧ r.ep = 0 ∧ r.f.length = 0 ∧ r.ms.toNat = 0) ∧
  (r.cd = 0 → (0 ≤ r.sq ∧ r.sq ≤ 1099511627776) ∧
    (r.kd = 2 → (1 ≤ r.id ∧ r.id < 1073741824) ∧ (1 ≤ r.vr ∧ r.vr ≤ 1099511627776) ∧ r.ep = 0 ∧ r.f.length = 0 ∧ r.ms.toNat = 0) ∧
    (r.kd = 3 → r.id = 0 ∧ r.vr = 0 ∧ (1 ≤ r.ep ∧ r.ep ≤ 1099511627776) ∧ lchk r.f = 0 ∧ r.ms.toNat ≤ 511) ∧
    (r.kd = 4 → r.id = 0 ∧ r.vr = 0 ∧ r.ep = 0 ∧ r.f.length = 0 ∧ r.ms.toNat = 0))
instance (r : Rp) : Decidable (rok r) := by unfold rok; infer_instance
theorem zero_iff (r : Rp) : rab r = rab zrp ↔ r.kd = 0 ∧ r.dv = 0 ∧ r.rq = 0 ∧ r.cd = 0 ∧ r.id = 0 ∧ r.vr = 0 ∧ r.sq = 0 ∧ r.ep = 0 ∧ r.f.length = 0 ∧ r.ms.toNat = 0 := by
  constructor
  · intro e
    refine ⟨rab_kd e, rab_dv e, rab_rq e, rab_cd e, rab_id e, rab_vr e, rab_sq e, rab_ep e, ?_, ?_⟩
    · rw [show r.f = [] from rab_f e]; rfl
    · rw [show r.ms = 0#32 from rab_ms e]; rfl
  · rintro ⟨h0, h1, h2, h3, h4, h5, h6, h7, h8, h9⟩
    exact rab_eq h0 h1 h2 h3 h4 h5 h6 h7 (List.length_eq_zero_iff.1 h8) (mk_nat _ _ h9)
/-- Is an answer the zero one? -/
theorem lzero_any (kd dv rq cd id vr sq ep : Int) (A : Option Addr) (n c : Nat) (f : List Nd) (ms : BitVec 32) (w : World) (h : okRp w ⟨kd, dv, rq, cd, id, vr, sq, ep, A, n, c, f, ms⟩) (hz : n ≤ 65536) :
    Calls Try.prog 13 #[.agg #[.int .i64 kd, .int .i64 dv, .int .i64 rq, .int .i64 cd, .int .i64 id, .int .i64 vr, .int .i64 sq, .int .i64 ep, .slice A n c, .int .u32 (ms.toNat : Int)], .agg #[.int .i64 0, .int .i64 0, .int .i64 0, .int .i64 0, .int .i64 0, .int .i64 0, .int .i64 0, .int .i64 0, .slice none 0 0, .int .u32 0]] w
      fun e w' => e = .returned (.bool (decide (kd = 0 ∧ dv = 0 ∧ rq = 0 ∧ cd = 0 ∧ id = 0 ∧ vr = 0 ∧ sq = 0 ∧ ep = 0 ∧ f.length = 0 ∧ ms.toNat = 0))) ∧ Below w.heap.size w w' := by
  have := lsame_any ⟨kd, dv, rq, cd, id, vr, sq, ep, A, n, c, f, ms⟩ zrp w h (okRp.zero w) hz
  rw [show decide (rab ⟨kd, dv, rq, cd, id, vr, sq, ep, A, n, c, f, ms⟩ = rab zrp) = decide (kd = 0 ∧ dv = 0 ∧ rq = 0 ∧ cd = 0 ∧ id = 0 ∧ vr = 0 ∧ sq = 0 ∧ ep = 0 ∧ f.length = 0 ∧ ms.toNat = 0) from decide_eq_decide.2 (zero_iff _)] at this
  exact this
theorem info_rp : (Try.prog.info? 26).map (·.size) = some 10 := by kernel_rfl

theorem two_frozen {w w3 : World} {cs cs' : List Value} {t t' : TypeId} (hb : Below ((w.alloc (.cells cs.toArray t)).alloc (.cells cs'.toArray t')).heap.size ((w.alloc (.cells cs.toArray t)).alloc (.cells cs'.toArray t')) w3) (j : Nat) :
    w3.frozen? ⟨w.heap.size + 1, j, none⟩ = false := by
  have h2 := (Blk.new (w.alloc (.cells cs.toArray t)) cs' t').later hb
  rw [show (w.alloc (.cells cs.toArray t)).heap.size = w.heap.size + 1 by simp] at h2
  exact h2.frozen j
set_option maxRecDepth 100000 in
set_option maxHeartbeats 6400000 in
theorem lcheck30_any (r : Rp) (w : World) (h : okRp w r) (hz : r.n ≤ 65536) :
    Calls Try.prog 9 #[.agg (rpc r).toArray] w fun e w' => e = .returned (.bool (decide (rok r))) ∧ Below w.heap.size w w' := by
  have hu := Try.underlying26
  obtain ⟨R, hR⟩ : ∃ R, R = decide (rok r) := ⟨_, rfl⟩
  rw [← hR]
  unfold rok at hR
  obtain ⟨kd, dv, rq, cd, id, vr, sq, ep, A, n, c, f, ms⟩ := r
  dsimp only [rpc] at *
  have HZ := Lib.hid (fun (kd dv rq cd id vr sq ep : Int) (ms : BitVec 32) W (hW : Below w.heap.size w W) => lzero_any kd dv rq cd id vr sq ep A n c f ms W ⟨(h.later hW).len, (h.later hW).cap, (h.later hW).max, (h.later hW).see⟩ hz)
  have HZ0 := Lib.hid (fun (kd dv rq cd id vr sq ep : Int) (W : World) (hW : Below w.heap.size w W) => show Calls Try.prog 13 #[.agg #[.int .i64 kd, .int .i64 dv, .int .i64 rq, .int .i64 cd, .int .i64 id, .int .i64 vr, .int .i64 sq, .int .i64 ep, .slice none 0 0, .int .u32 0], .agg #[.int .i64 0, .int .i64 0, .int .i64 0, .int .i64 0, .int .i64 0, .int .i64 0, .int .i64 0, .int .i64 0, .slice none 0 0, .int .u32 0]] W (fun e w' => e = .returned (.bool (decide (kd = 0 ∧ dv = 0 ∧ rq = 0 ∧ cd = 0 ∧ id = 0 ∧ vr = 0 ∧ sq = 0 ∧ ep = 0 ∧ (0 : Nat) = 0 ∧ (0 : Nat) = 0))) ∧ Below W.heap.size W w') from lzero_any kd dv rq cd id vr sq ep none 0 0 [] 0#32 W ⟨rfl, Nat.le_refl _, by simp [maxLen], Sees.nil_⟩ (by omega))
  have HCHK := Lib.hid (fun W (hW : Below w.heap.size w W) => lcheck_any A n c f W (h.later hW).len (h.later hW).see)
  obtain ⟨lc, hlc⟩ : ∃ lc, lc = lchk f := ⟨_, rfl⟩
  obtain ⟨fl, hfl⟩ : ∃ fl, fl = f.length := ⟨_, rfl⟩
  have hR2 : R = decide ((2 ≤ kd ∧ kd ≤ 4) ∧ (0 ≤ dv ∧ dv < 6) ∧ (1 ≤ rq ∧ rq ≤ 1099511627776) ∧ (0 ≤ cd ∧ cd ≤ 16) ∧ (¬ cd = 0 → id = 0 ∧ vr = 0 ∧ sq = 0 ∧ ep = 0 ∧ fl = 0 ∧ ms.toNat = 0) ∧ (cd = 0 → (0 ≤ sq ∧ sq ≤ 1099511627776) ∧ (kd = 2 → (1 ≤ id ∧ id < 1073741824) ∧ (1 ≤ vr ∧ vr ≤ 1099511627776) ∧ ep = 0 ∧ fl = 0 ∧ ms.toNat = 0) ∧ (kd = 3 → id = 0 ∧ vr = 0 ∧ (1 ≤ ep ∧ ep ≤ 1099511627776) ∧ lc = 0 ∧ ms.toNat ≤ 511) ∧ (kd = 4 → id = 0 ∧ vr = 0 ∧ ep = 0 ∧ fl = 0 ∧ ms.toNat = 0))) := by
    rw [hR, hlc, hfl]
  rw [← hlc] at HCHK
  rw [← hfl] at HZ
  have HR := Lib.hid hR2
  clear hR hR2 h hlc hfl
  go_enter Try.func9, Try.ntmps9
  go_wp2_with fail
  repeat' (first | (with_reducible refine (lgdev_any _ _).mono ?_; rintro e wx ⟨rfl, rfl⟩; go_wp2_with fail) | (with_reducible refine (lgabove_any _ _).mono ?_; rintro e wx ⟨rfl, rfl⟩; go_wp2_with fail) | (with_reducible refine (lgnum_any _ _).mono ?_; rintro e wx ⟨rfl, rfl⟩; go_wp2_with fail))
  all_goals (try (
    refine (HCHK.out _ (below_a2 _ _ _)).mono ?_
    rintro e w5 ⟨rfl, hb5⟩
    have HB5 := Lib.hid ((below_a2 _ _ _).trans (hb5.mono (below_a2 _ _ _).size))
    have kx9 := (two_cells hb5).1 9 _ rfl
    have ky0 := (two_cells hb5).2 0 _ rfl
    have ky1 := (two_cells hb5).2 1 _ rfl
    have ky2 := (two_cells hb5).2 2 _ rfl
    have ky3 := (two_cells hb5).2 3 _ rfl
    have ky4 := (two_cells hb5).2 4 _ rfl
    have ky5 := (two_cells hb5).2 5 _ rfl
    have ky6 := (two_cells hb5).2 6 _ rfl
    have ky7 := (two_cells hb5).2 7 _ rfl
    have ky8 := (two_cells hb5).2 8 _ rfl
    have ky9 := (two_cells hb5).2 9 _ rfl
    have kz7 := two_frozen hb5 7
    have kz8 := two_frozen hb5 8
    have kz9 := two_frozen hb5 9
    have HB6 := Lib.hid (fun (a b c : Value) => ((HB5.out.setCell (p := ⟨w.heap.size + 1, 7, none⟩) (by simp) a).setCell (p := ⟨w.heap.size + 1, 8, none⟩) (by simp) b).setCell (p := ⟨w.heap.size + 1, 9, none⟩) (by simp) c)
    clear hb5
    go_wp2_with fail))
  all_goals (repeat' (first | (with_reducible refine (lgabove_any _ _).mono ?_; rintro e wx ⟨rfl, rfl⟩; go_wp2_with fail) | (with_reducible refine (lgnum_any _ _).mono ?_; rintro e wx ⟨rfl, rfl⟩; go_wp2_with fail) | (with_reducible refine (mcheck_any _ _).mono ?_; rintro e wx ⟨rfl, rfl⟩; go_wp2_with fail) | (with_reducible refine (HZ.out _ _ _ _ _ _ _ _ _ _ (below_a2 _ _ _)).mono ?_; rintro e wy ⟨rfl, hby⟩; have HBY := Lib.hid (((below_a2 _ _ _)).trans (hby.mono ((below_a2 _ _ _)).size)); clear hby; go_wp2_with fail) | (with_reducible refine (HZ.out _ _ _ _ _ _ _ _ _ _ HB5.out).mono ?_; rintro e wy ⟨rfl, hby⟩; have HBY := Lib.hid ((HB5.out).trans (hby.mono (HB5.out).size)); clear hby; go_wp2_with fail) | (with_reducible refine (HZ0.out _ _ _ _ _ _ _ _ _ (HB6.out _ _ _)).mono ?_; rintro e wy ⟨rfl, hby⟩; have HBY := Lib.hid (((HB6.out _ _ _)).trans (hby.mono ((HB6.out _ _ _)).size)); clear hby; go_wp2_with fail)))
  all_goals
    go_ret
    refine ⟨?_, by first | exact HBY.out | exact HB5.out | exact HB6.out _ _ _ | exact below_a1 _ _ | exact below_a2 _ _ _⟩
    show Ending.returned (Value.bool _) = _
    rw [HR.out]
    refine congrArg (fun b => Ending.returned (Value.bool b)) (Bool.eq_iff_iff.2 ?_)
    simp only [decide_eq_true_eq, Bool.and_eq_true, Bool.or_eq_true, Bool.not_eq_true', decide_eq_false_iff_not, Bool.false_eq_true, beq_iff_eq, false_iff, true_iff]
    (try simp only [bne_iff_ne, ne_eq, bne_eq_false_iff_eq, beq_iff_eq, beq_eq_false_iff_ne] at *)
    omega
end Go.Proofs.Ytadmaalhhigbeaa

/- Ledger: which answers may be, by the document. -/
namespace Go.Proofs.Ytadmaalhhigbeaa
set_option linter.unusedVariables false
set_option linter.unusedSimpArgs false
open Go Go.RowKit ValM

set_option maxRecDepth 100000 in
set_option maxHeartbeats 6400000 in
theorem rlcheck30_any (r : Rp) (w : World) (h : okRp w r) (hz : r.n ≤ 65536) :
    Calls Try.prog 10 #[.agg (rpc r).toArray] w fun e w' => e = .returned (.bool (decide (rok r))) ∧ Below w.heap.size w w' := by
  obtain ⟨R, hR⟩ : ∃ R, R = decide (rok r) := ⟨_, rfl⟩
  rw [← hR]
  unfold rok at hR
  obtain ⟨kd, dv, rq, cd, id, vr, sq, ep, A, n, c, f, ms⟩ := r
  dsimp only [rpc] at *
  have HCHK := Lib.hid (fun W (hW : Below w.heap.size w W) => rlcheck_any A n c f W (h.later hW).len (h.later hW).see (h.later hW).cap)
  obtain ⟨lc, hlc⟩ : ∃ lc, lc = lchk f := ⟨_, rfl⟩
  obtain ⟨fl, hfl⟩ : ∃ fl, fl = f.length := ⟨_, rfl⟩
  have hR2 : R = decide ((2 ≤ kd ∧ kd ≤ 4) ∧ (0 ≤ dv ∧ dv < 6) ∧ (1 ≤ rq ∧ rq ≤ 1099511627776) ∧ (0 ≤ cd ∧ cd ≤ 16) ∧ (¬ cd = 0 → id = 0 ∧ vr = 0 ∧ sq = 0 ∧ ep = 0 ∧ fl = 0 ∧ ms.toNat = 0) ∧ (cd = 0 → (0 ≤ sq ∧ sq ≤ 1099511627776) ∧ (kd = 2 → (1 ≤ id ∧ id < 1073741824) ∧ (1 ≤ vr ∧ vr ≤ 1099511627776) ∧ ep = 0 ∧ fl = 0 ∧ ms.toNat = 0) ∧ (kd = 3 → id = 0 ∧ vr = 0 ∧ (1 ≤ ep ∧ ep ≤ 1099511627776) ∧ lc = 0 ∧ ms.toNat ≤ 511) ∧ (kd = 4 → id = 0 ∧ vr = 0 ∧ ep = 0 ∧ fl = 0 ∧ ms.toNat = 0))) := by
    rw [hR, hlc, hfl]
  have hln : fl = n := hfl.trans h.len
  rw [← hlc] at HCHK
  have HR := Lib.hid hR2
  clear hR hR2 h hlc hfl
  go_enter Try.func10, Try.ntmps10
  go_wp2_with fail
  all_goals (try (
    go_ret
    refine ⟨?_, below_a1 _ _⟩
    show Ending.returned (Value.bool _) = _
    rw [HR.out]
    refine congrArg (fun b => Ending.returned (Value.bool b)) (Bool.eq_iff_iff.2 ?_)
    simp only [decide_eq_true_eq, Bool.and_eq_true, Bool.or_eq_true, Bool.not_eq_true', decide_eq_false_iff_not, Bool.false_eq_true, beq_iff_eq, false_iff, true_iff]
    (try simp only [Bool.not_eq_true', Bool.not_eq_false', decide_eq_true_eq, decide_eq_false_iff_not, bne_iff_ne, ne_eq, bne_eq_false_iff_eq, beq_iff_eq, beq_eq_false_iff_ne] at *)
    omega))
  have ca : ∀ kk : LW (w.alloc (.cells #[.int .i64 kd, .int .i64 dv, .int .i64 rq, .int .i64 cd, .int .i64 id, .int .i64 vr, .int .i64 sq, .int .i64 ep, .slice A n c, .int .u32 (ms.toNat : Int)] 26)), kk.val.cell? ⟨w.heap.size, 0, none⟩ = some (.int .i64 kd) := fun kk => ((Blk.new w _ _).later kk.le).cell (j := 0) rfl
  by_cases hc : cd = 0
  · have bc : (cd == 0) = true := by simp [hc]
    simp only [bc]
    refine wp_region_steady [] 145 (by kernel_rfl) (by kernel_rfl) (by kernel_rfl) (by rfl) ?_
    iterate 14 (refine wpG_quiet (by rfl) (by rfl) (by rfl) (fun K hK => ?_); go_big_quiet_op; refine hK _ ?_; clear hK K)
    refine wpG_nil fun w9 hl _ => ?_
    have HB9 := Lib.hid ((below_a1 w _).trans (Below.mono hl (below_a1 w _).size))
    have kx0 := ((Blk.new w _ _).later hl).cell (j := 0) rfl
    have kx1 := ((Blk.new w _ _).later hl).cell (j := 1) rfl
    have kx2 := ((Blk.new w _ _).later hl).cell (j := 2) rfl
    have kx3 := ((Blk.new w _ _).later hl).cell (j := 3) rfl
    have kx4 := ((Blk.new w _ _).later hl).cell (j := 4) rfl
    have kx5 := ((Blk.new w _ _).later hl).cell (j := 5) rfl
    have kx6 := ((Blk.new w _ _).later hl).cell (j := 6) rfl
    have kx7 := ((Blk.new w _ _).later hl).cell (j := 7) rfl
    have kx8 := ((Blk.new w _ _).later hl).cell (j := 8) rfl
    have kx9 := ((Blk.new w _ _).later hl).cell (j := 9) rfl
    clear ca hl
    go_wp2_with fail
    all_goals (try (
      refine (HCHK.out _ HB9.out).mono ?_
      rintro e w5 ⟨rfl, hb5⟩
      have HB5 := Lib.hid (HB9.out.trans (hb5.mono HB9.out.size))
      have ky9 := (hb5.cell (p := ⟨w.heap.size, 9, none⟩) (by have := HB9.out.size; have := World.block_lt_of_cell? _ _ kx9; omega)).trans kx9
      clear hb5
      go_wp2_with fail))
    all_goals (repeat' (first | (with_reducible refine (rmcheck_any _ _).mono ?_; rintro e wx ⟨rfl, rfl⟩; go_wp2_with fail)))
    all_goals
      go_ret
      refine ⟨?_, by first | exact HB5.out | exact HB9.out⟩
      show Ending.returned (Value.bool _) = _
      rw [HR.out]
      refine congrArg (fun b => Ending.returned (Value.bool b)) (Bool.eq_iff_iff.2 ?_)
      simp only [decide_eq_true_eq, Bool.and_eq_true, Bool.or_eq_true, Bool.not_eq_true', decide_eq_false_iff_not, Bool.false_eq_true, beq_iff_eq, false_iff, true_iff]
      (try simp only [Bool.not_eq_true', Bool.not_eq_false', decide_eq_true_eq, decide_eq_false_iff_not, bne_iff_ne, ne_eq, bne_eq_false_iff_eq, beq_iff_eq, beq_eq_false_iff_ne] at *)
      omega
  · have bc : (cd == 0) = false := by simp [hc]
    simp only [bc]
    refine wp_region_steady [] 145 (by kernel_rfl) (by kernel_rfl) (by kernel_rfl) (by rfl) ?_
    iterate 2 (refine wpG_quiet (by rfl) (by rfl) (by rfl) (fun K hK => ?_); go_big_quiet_op; refine hK _ ?_; clear hK K)
    iterate 3 (refine wpG_skip (by rfl) ?_; simp only [Act.put, List.setIfInBounds_toArray, List.set_cons_zero, List.set_cons_succ])
    iterate 3 (refine wpG_quiet (by rfl) (by rfl) (by rfl) (fun K hK => ?_); go_big_quiet_op; refine hK _ ?_; clear hK K)
    iterate 3 (refine wpG_skip (by rfl) ?_; simp only [Act.put, List.setIfInBounds_toArray, List.set_cons_zero, List.set_cons_succ])
    iterate 3 (refine wpG_quiet (by rfl) (by rfl) (by rfl) (fun K hK => ?_); go_big_quiet_op; refine hK _ ?_; clear hK K)
    refine wpG_nil fun w9 hl _ => ?_
    have HB9 := Lib.hid ((below_a1 w _).trans (Below.mono hl (below_a1 w _).size))
    have kx0 := ((Blk.new w _ _).later hl).cell (j := 0) rfl
    have kx1 := ((Blk.new w _ _).later hl).cell (j := 1) rfl
    have kx2 := ((Blk.new w _ _).later hl).cell (j := 2) rfl
    have kx3 := ((Blk.new w _ _).later hl).cell (j := 3) rfl
    have kx4 := ((Blk.new w _ _).later hl).cell (j := 4) rfl
    have kx5 := ((Blk.new w _ _).later hl).cell (j := 5) rfl
    have kx6 := ((Blk.new w _ _).later hl).cell (j := 6) rfl
    have kx7 := ((Blk.new w _ _).later hl).cell (j := 7) rfl
    have kx8 := ((Blk.new w _ _).later hl).cell (j := 8) rfl
    have kx9 := ((Blk.new w _ _).later hl).cell (j := 9) rfl
    clear ca hl
    go_wp2_with fail
    all_goals (try (
      refine (HCHK.out _ HB9.out).mono ?_
      rintro e w5 ⟨rfl, hb5⟩
      have HB5 := Lib.hid (HB9.out.trans (hb5.mono HB9.out.size))
      have ky9 := (hb5.cell (p := ⟨w.heap.size, 9, none⟩) (by have := HB9.out.size; have := World.block_lt_of_cell? _ _ kx9; omega)).trans kx9
      clear hb5
      go_wp2_with fail))
    all_goals (repeat' (first | (with_reducible refine (rmcheck_any _ _).mono ?_; rintro e wx ⟨rfl, rfl⟩; go_wp2_with fail)))
    all_goals
      go_ret
      refine ⟨?_, by first | exact HB5.out | exact HB9.out⟩
      show Ending.returned (Value.bool _) = _
      rw [HR.out]
      refine congrArg (fun b => Ending.returned (Value.bool b)) (Bool.eq_iff_iff.2 ?_)
      simp only [decide_eq_true_eq, Bool.and_eq_true, Bool.or_eq_true, Bool.not_eq_true', decide_eq_false_iff_not, Bool.false_eq_true, beq_iff_eq, false_iff, true_iff]
      (try simp only [Bool.not_eq_true', Bool.not_eq_false', decide_eq_true_eq, decide_eq_false_iff_not, bne_iff_ne, ne_eq, bne_eq_false_iff_eq, beq_iff_eq, beq_eq_false_iff_ne] at *)
      omega
end Go.Proofs.Ytadmaalhhigbeaa
