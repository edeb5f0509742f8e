/- The order of filters: what slices.CompareFunc, the program's Compare and the document's return. -/
import Derived.Test.YtadmaalhhigbeaaPrdR
import Derived.Test.YtadmaalhhigbeaaPrdL
import Derived.Test.YtadmaalhhigbeaaPrdI
namespace Go.Proofs.Ytadmaalhhigbeaa
set_option linter.unusedVariables false
set_option linter.unusedSimpArgs false
open Go Go.RowKit BitM ValM

theorem node_there (w : World) : (w.alloc (.cells #[.int .i64 0, .int .i64 0, .int .i64 0, .int .i64 0, .string ⟨#[]⟩] 71)).there w.heap.size 0 5 := (Blk.new w (ncells zn) 71).there 0 5 (by rw [ncells_len]; exact Nat.le_refl 5)
set_option maxHeartbeats 1600000 in
theorem node_put (w W : World) (n : Nd) (nc : List Value) (hnc : nc = ncells n) (hW : W = (w.alloc (.cells #[.int .i64 0, .int .i64 0, .int .i64 0, .int .i64 0, .string ⟨#[]⟩] 71)).setCells w.heap.size 0 nc) : Blk W w.heap.size nc ∧ Below w.heap.size w W ∧ W.heap.size = w.heap.size + 1 := by
  subst hnc hW
  have BN := Blk.new w (ncells zn) 71
  have FIN := BN.sets (ncells n) 0 (by rw [ncells_len, ncells_len]; exact Nat.le_refl 5)
  have e1 : (ncells zn).take 0 ++ ncells n ++ (ncells zn).drop (0 + (ncells n).length) = ncells n := by simp [ncells]
  rw [e1] at FIN
  exact ⟨FIN, below_sets (Nat.le_refl w.heap.size) (ncells n) 0 ((Below.refl w.heap.size w).alloc (Nat.le_refl _) (.cells (ncells zn).toArray 71)), by rw [size_sets]; simp⟩
theorem node_one (n : Nd) : ∀ v ∈ ncells n, v.oneCell' = true := fun v hv => ncs_one [n] v (by simpa [ncs] using hv)

set_option maxRecDepth 100000 in
set_option maxHeartbeats 3200000 in
theorem cmpfunc_any (A : Option Addr) (n c : Nat) (l : List Nd) (A' : Option Addr) (n' c' : Nat) (m : List Nd) (w : World) (hn : l.length = n) (hn' : m.length = n') (hs : Sees w w.heap.size A (ncs l)) (hs' : Sees w w.heap.size A' (ncs m)) (hm : n ≤ 65536) :
    Calls Try.prog 75 #[.slice A n c, .slice A' n' c', (.func (.func 76) #[] #[])] w fun e w' => e = .returned (.int .i64 (lcmp l m)) ∧ Below w.heap.size w w' := by
  have HN := Lib.hid hn
  have HN' := Lib.hid hn'
  have hu := Try.underlying71
  obtain ⟨R, hR⟩ : ∃ R, R = lcmp l m := ⟨_, rfl⟩
  have HR := Lib.hid hR
  rw [← hR]
  clear hn hn' hR
  go_enter Try.func75, Try.ntmps75
  go_wp2_with fail
  go_loopw [13] (fun i wr => ∃ k : Nat, k ≤ n ∧ k ≤ n' ∧ i = .int .i64 k ∧ Hid (R = lcmp (l.drop k) (m.drop k)) ∧ Below w.heap.size w wr) (fun i _ => n - (intOf i).toNat)
  case atStart => exact ⟨0, Nat.zero_le _, Nat.zero_le _, rfl, Lib.hid (by rw [HR.out]; rfl), Below.refl _ _⟩
  case round =>
    obtain ⟨k, hk, hk', rfl, HP, hbr⟩ := hrel
    by_cases hlt : k < n
    · have d1 : decide ((k : Int) < (n : Int)) = true := by simp; omega
      have hkl : k < l.length := by rw [HN.out]; exact hlt
      obtain ⟨b, o, rfl, hb, hcc, hc2, hrg⟩ := sees_node ((hs.below hbr).more hbr.size) k hkl
      clear hcc hc2
      obtain ⟨nc, hnc⟩ : ∃ nc, nc = ncells l[k] := ⟨_, rfl⟩
      obtain ⟨W1, hW1⟩ : ∃ W1, W1 = (wr.alloc (.cells #[.int .i64 0, .int .i64 0, .int .i64 0, .int .i64 0, .string ⟨#[]⟩] 71)).setCells wr.heap.size 0 nc := ⟨_, rfl⟩
      obtain ⟨F1, B1, z1⟩ := node_put wr W1 l[k] nc hnc hW1
      have TH1 := node_there wr
      have HW1 := Lib.hid hW1
      have HSZ := Lib.hid (show nc.length = 5 by rw [hnc]; rfl)
      have HONE := Lib.hid (hnc ▸ node_one l[k])
      rw [← hnc] at hrg
      by_cases hlt' : k < n'
      · have d2 : decide ((k : Int) ≥ (n' : Int)) = false := by simp; omega
        have d3 : decide ((n' : Int) ≤ (k : Int)) = false := by simp; omega
        have hkm : k < m.length := by rw [HN'.out]; exact hlt'
        have hbr1 := hbr.trans (B1.mono hbr.size)
        obtain ⟨b', o', rfl, hb', hcc', hc2', hrg'⟩ := sees_node ((hs'.below hbr1).more hbr1.size) k hkm
        clear hcc' hc2'
        obtain ⟨mc, hmc⟩ : ∃ mc, mc = ncells m[k] := ⟨_, rfl⟩
        obtain ⟨W2, hW2⟩ : ∃ W2, W2 = (W1.alloc (.cells #[.int .i64 0, .int .i64 0, .int .i64 0, .int .i64 0, .string ⟨#[]⟩] 71)).setCells W1.heap.size 0 mc := ⟨_, rfl⟩
        obtain ⟨F2, B2, z2⟩ := node_put W1 W2 m[k] mc hmc hW2
        have TH2 := node_there W1
        have HW2 := Lib.hid hW2
        have HSZ2 := Lib.hid (show mc.length = 5 by rw [hmc]; rfl)
        have HONE2 := Lib.hid (hmc ▸ node_one m[k])
        rw [← hmc] at hrg'
        have RG1 := Lib.hid ((F1.later B2).range 0 nc (by simp))
        have RG2 := Lib.hid (F2.range 0 mc (by simp))
        have hbr2 := Lib.hid (hbr1.trans (B2.mono hbr1.size))
        have HC := Lib.hid (fun wx : World => ncompare_any l[k] m[k] wx)
        rw [← hnc, ← hmc] at HC
        have HX := Lib.hid (lcmp_at l m k hkl hkm)
        obtain ⟨q, hq⟩ : ∃ q, q = ncmp l[k] m[k] := ⟨_, rfl⟩
        rw [← hq] at HC HX
        clear hnc hmc hW1 hW2 F1 F2 hbr hbr1 B1 B2 z1 z2 hq
        have HARMS : True := trivial
        by_cases hq0 : q = 0
        · subst hq0
          have HX2 : Hid (R = lcmp (l.drop (k + 1)) (m.drop (k + 1))) := Lib.hid (by rw [HP.out, HX.out]; simp)
          clear HX HP
          go_wp2_with (first
            | (refine wpList_load_mid rfl 71 (.tmp 16) rfl b (o + k * 5) rfl nc _ hrg hu rfl (by rw [HSZ.out]; exact info_node) ?_)
            | (refine wpList_store_mid rfl 71 (.tmp 8) (.tmp 17) rfl wr.heap.size 0 nc.toArray rfl rfl (by simpa [HSZ.out] using TH1) (by simpa [HSZ.out] using info_node) (all_oneCell_toArray HONE.out) ?_
               rw [show (wr.alloc (.cells #[.int .i64 0, .int .i64 0, .int .i64 0, .int .i64 0, .string ⟨#[]⟩] 71)).setCells wr.heap.size 0 nc.toArray.toList = W1 from HW1.out.symm])
            | (refine wpList_load_mid rfl 71 (.tmp 24) rfl b' (o' + k * 5) rfl mc _ hrg' hu rfl (by rw [HSZ2.out]; exact info_node) ?_)
            | (refine wpList_store_mid rfl 71 (.tmp 9) (.tmp 25) rfl W1.heap.size 0 mc.toArray rfl rfl (by simpa [HSZ2.out] using TH2) (by simpa [HSZ2.out] using info_node) (all_oneCell_toArray HONE2.out) ?_
               rw [show (W1.alloc (.cells #[.int .i64 0, .int .i64 0, .int .i64 0, .int .i64 0, .string ⟨#[]⟩] 71)).setCells W1.heap.size 0 mc.toArray.toList = W2 from HW2.out.symm])
            | (refine wpList_load_mid rfl 71 (.tmp 8) rfl wr.heap.size 0 rfl nc _ RG1.out hu rfl (by rw [HSZ.out]; exact info_node) ?_)
            | (refine wpList_load_mid rfl 71 (.tmp 9) rfl W1.heap.size 0 rfl mc _ RG2.out hu rfl (by rw [HSZ2.out]; exact info_node) ?_)
            | fail)
          refine (HC.out _).mono ?_
          rintro e w3 ⟨rfl, hb3⟩
          have hb4 := hbr2.out.trans (hb3.mono hbr2.out.size)
          clear TH1 TH2 hrg hrg' RG1 RG2 HC hb3 hbr2
          go_wp2_with fail
          go_roundw
          case rel => exact ⟨k + 1, by omega, by omega, by go_num, HX2, hb4⟩
          case measure => simp [intOf]; omega
        · have n1 : (q != 0) = true := by simpa using hq0
          have HX2 : Hid (R = q) := Lib.hid (by rw [HP.out, HX.out, if_pos hq0])
          clear HX HP hq0
          go_wp2_with (first
            | (refine wpList_load_mid rfl 71 (.tmp 16) rfl b (o + k * 5) rfl nc _ hrg hu rfl (by rw [HSZ.out]; exact info_node) ?_)
            | (refine wpList_store_mid rfl 71 (.tmp 8) (.tmp 17) rfl wr.heap.size 0 nc.toArray rfl rfl (by simpa [HSZ.out] using TH1) (by simpa [HSZ.out] using info_node) (all_oneCell_toArray HONE.out) ?_
               rw [show (wr.alloc (.cells #[.int .i64 0, .int .i64 0, .int .i64 0, .int .i64 0, .string ⟨#[]⟩] 71)).setCells wr.heap.size 0 nc.toArray.toList = W1 from HW1.out.symm])
            | (refine wpList_load_mid rfl 71 (.tmp 24) rfl b' (o' + k * 5) rfl mc _ hrg' hu rfl (by rw [HSZ2.out]; exact info_node) ?_)
            | (refine wpList_store_mid rfl 71 (.tmp 9) (.tmp 25) rfl W1.heap.size 0 mc.toArray rfl rfl (by simpa [HSZ2.out] using TH2) (by simpa [HSZ2.out] using info_node) (all_oneCell_toArray HONE2.out) ?_
               rw [show (W1.alloc (.cells #[.int .i64 0, .int .i64 0, .int .i64 0, .int .i64 0, .string ⟨#[]⟩] 71)).setCells W1.heap.size 0 mc.toArray.toList = W2 from HW2.out.symm])
            | (refine wpList_load_mid rfl 71 (.tmp 8) rfl wr.heap.size 0 rfl nc _ RG1.out hu rfl (by rw [HSZ.out]; exact info_node) ?_)
            | (refine wpList_load_mid rfl 71 (.tmp 9) rfl W1.heap.size 0 rfl mc _ RG2.out hu rfl (by rw [HSZ2.out]; exact info_node) ?_)
            | fail)
          refine (HC.out _).mono ?_
          rintro e w3 ⟨rfl, hb3⟩
          have hb4 := hbr2.out.trans (hb3.mono hbr2.out.size)
          clear TH1 TH2 hrg hrg' RG1 RG2 HC hb3 hbr2
          go_wp2_with fail
          go_ret
          exact ⟨by rw [HX2.out]; rfl, hb4⟩
      · obtain rfl : k = n' := by omega
        have HX2 : Hid (R = 1) := Lib.hid (by rw [HP.out, lcmp_none l m k (by omega) (by rw [HN'.out]; exact Nat.le_refl _) (.inr HN'.out.symm), HN.out, HN'.out, if_neg (by omega), if_pos hlt])
        have hbr1 := Lib.hid (hbr.trans (B1.mono hbr.size))
        clear hnc hW1 F1 hbr B1 z1 HP
        go_wp2_with (first
          | (refine wpList_load_mid rfl 71 (.tmp 16) rfl b (o + k * 5) rfl nc _ hrg hu rfl (by rw [HSZ.out]; exact info_node) ?_)
          | (refine wpList_store_mid rfl 71 (.tmp 8) (.tmp 17) rfl wr.heap.size 0 nc.toArray rfl rfl (by simpa [HSZ.out] using TH1) (by simpa [HSZ.out] using info_node) (all_oneCell_toArray HONE.out) ?_
             rw [show (wr.alloc (.cells #[.int .i64 0, .int .i64 0, .int .i64 0, .int .i64 0, .string ⟨#[]⟩] 71)).setCells wr.heap.size 0 nc.toArray.toList = W1 from HW1.out.symm])
          | fail)
        go_ret
        exact ⟨by rw [HX2.out]; rfl, hbr1.out⟩
    · obtain rfl : k = n := by omega
      have HX : Hid (R = if k < n' then -1 else 0) := Lib.hid (by
        rw [HP.out, lcmp_none l m k (by rw [HN.out]; exact Nat.le_refl _) (by rw [HN'.out]; exact hk') (.inl HN.out.symm), HN.out, HN'.out]
        rw [if_neg (show ¬ n' < k by omega)])
      by_cases hlt' : k < n'
      · have d2 : decide ((k : Int) < (n' : Int)) = true := by simp; omega
        have HX2 : Hid (R = -1) := Lib.hid (by rw [HX.out, if_pos hlt'])
        clear HX HP
        go_wp2_with fail
        go_ret
        exact ⟨by rw [HX2.out]; rfl, hbr⟩
      · obtain rfl : k = n' := by omega
        have HX2 : Hid (R = 0) := Lib.hid (by rw [HX.out, if_neg hlt'])
        clear HX HP
        go_wp2_with fail
        go_ret
        exact ⟨by rw [HX2.out]; rfl, hbr⟩

set_option maxHeartbeats 1600000 in
theorem lcompare_any (A : Option Addr) (n c : Nat) (l : List Nd) (A' : Option Addr) (n' c' : Nat) (m : List Nd) (w : World) (hn : l.length = n) (hn' : m.length = n') (hs : Sees w w.heap.size A (ncs l)) (hs' : Sees w w.heap.size A' (ncs m)) (hm : n ≤ 65536) :
    Calls Try.prog 46 #[.slice A n c, .slice A' n' c'] w fun e w' => e = .returned (.int .i64 (lcmp l m)) ∧ Below w.heap.size w w' := by
  have H := Lib.hid (cmpfunc_any A n c l A' n' c' m w hn hn' hs hs' hm)
  clear hn hn' hs hs' hm
  go_enter Try.func46, Try.ntmps46
  go_wp2_with fail
  refine H.out.mono ?_
  rintro e w1 ⟨rfl, hb⟩
  go_wp2_with fail
  go_ret
  exact ⟨rfl, hb⟩

end Go.Proofs.Ytadmaalhhigbeaa
