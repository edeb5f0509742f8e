/- Cards: whether two lists of cards are the same: what it returns. -/
import Derived.Test.YtgdidamjgaegkaaCardI
namespace Go.Proofs.Ytgdidamjgaegkaa
set_option linter.unusedVariables false
open Go Go.RowKit BitM

/-- A card; its cells. -/
abbrev C4 := Int × Int × Int × List V3
def cc4 (c : C4) : List Value := ccells c.1 c.2.1 c.2.2.1 c.2.2.2
theorem cc4_len (c : C4) (h : c.2.2.2.length = 8) : (cc4 c).length = 27 := ccells_len _ _ _ h
/-- A list of cards lies in a block, from a place on. -/
def Rows (w : World) (g o : Nat) (l : List C4) : Prop := (∀ c ∈ l, c.2.2.2.length = 8) ∧ ∃ cs, Blk w g cs ∧ ∀ k (h : k < l.length), (cs.drop (o + k * 27)).take 27 = cc4 l[k]
theorem Rows.later {w w' : World} {g o : Nat} {l : List C4} (h : Rows w g o l) (hb : Below w.heap.size w w') : Rows w' g o l := by
  obtain ⟨h0, cs, h1, h2⟩ := h
  exact ⟨h0, cs, h1.later hb, h2⟩
theorem Rows.range {w : World} {g o : Nat} {l : List C4} (h : Rows w g o l) (k : Nat) (hk : k < l.length) : w.rangeAt g (o + k * 27) (cc4 l[k]) := by
  obtain ⟨h0, cs, h1, h2⟩ := h
  refine h1.range _ _ ?_
  rw [cc4_len _ (h0 _ (List.getElem_mem hk))]
  exact h2 k hk
theorem eq_c4 (u v : C4) (hu : u.2.2.2.length = 8) (hv : v.2.2.2.length = 8) (w : World) : (Op.equalIn 10000 27 (.agg (cc4 u).toArray) (.agg (cc4 v).toArray)).run Try.prog w = .ok (decide (u = v)) w := by
  obtain ⟨a, b, c, f⟩ := u
  obtain ⟨a', b', c', f'⟩ := v
  unfold cc4
  rw [eq_card 9996 a b c a' b' c' f f' hu hv w]
  congr 1
  rw [Bool.eq_iff_iff, decide_eq_true_eq, decide_eq_true_eq]
  simp
theorem list_eq_of {l m : List C4} {k : Nat} (hl : l.length = m.length) (h : ∀ i (h1 : i < l.length) (h2 : i < m.length), l[i] = m[i]) : l = m := List.ext_getElem hl h

set_option maxRecDepth 100000 in
set_option maxHeartbeats 3200000 in
theorem same_any (ga oa ca gb ob cb n : Nat) (l m : List C4) (w : World) (hl : l.length = n) (hm : m.length = n) (hn : n ≤ 65536) (hA : Rows w ga oa l) (hB : Rows w gb ob m) (R : Bool) (hR : R = true ↔ l = m) :
    Calls Try.prog 18 #[.slice (some ⟨ga, oa, none⟩) n ca, .slice (some ⟨gb, ob, none⟩) n cb] w fun e w' => e = .returned (.bool R) ∧ Below w.heap.size w w' := by
  have HR := Lib.hid hR
  have HLL := Lib.hid hl
  have HML := Lib.hid hm
  have hu := Try.underlying27
  clear hR hl hm
  go_enter Try.func18, Try.ntmps18
  go_wp2_with fail
  go_loopw [13] (fun i wr => ∃ k : Nat, k ≤ n ∧ i = .int .i64 k ∧ Hid (∀ i (h1 : i < l.length) (h2 : i < m.length), i < k → l[i] = m[i]) ∧ Rows wr ga oa l ∧ Rows wr gb ob m ∧ Below w.heap.size w wr) (fun i _ => n - (intOf i).toNat)
  case atStart => exact ⟨0, by omega, rfl, Lib.hid (fun i _ _ h => absurd h (by omega)), hA, hB, Below.refl _ _⟩
  case round =>
    obtain ⟨k, hk, rfl, HK, RA, RB, hbr⟩ := hrel
    clear hA hB
    by_cases hlt : k < n
    · have dk : (k : Int) < (n : Int) := by omega
      have hkl : k < l.length := by rw [HLL.out]; exact hlt
      have hkm : k < m.length := by rw [HML.out]; exact hlt
      have hlu := RA.1 _ (List.getElem_mem hkl)
      have hlv := RB.1 _ (List.getElem_mem hkm)
      obtain ⟨u, hu2⟩ : ∃ u, u = l[k] := ⟨_, rfl⟩
      obtain ⟨v, hv2⟩ : ∃ v, v = m[k] := ⟨_, rfl⟩
      rw [← hu2] at hlu
      rw [← hv2] at hlv
      have HUL := Lib.hid (cc4_len u hlu)
      have HVL := Lib.hid (cc4_len v hlv)
      have HA := Lib.hid (fun (w1 : World) (hl : Le wr w1) => (show w1.rangeAt ga (oa + k * 27) (cc4 u) from by rw [hu2]; exact (RA.later hl).range k hkl))
      have HBB := Lib.hid (fun (w1 : World) (hl : Le wr w1) => (show w1.rangeAt gb (ob + k * 27) (cc4 v) from by rw [hv2]; exact (RB.later hl).range k hkm))
      have HQ := Lib.hid (fun w1 : World => eq_c4 u v hlu hlv w1)
      have HU2 := Lib.hid hu2
      have HV2 := Lib.hid hv2
      clear hlu hlv hu2 hv2
      cases huv : decide (u = v) with
      | true =>
        rw [huv] at HQ
        have HE := Lib.hid (of_decide_eq_true huv)
        clear huv
        go_wp2_with fail
        refine wp_region_steady [] 26 (by kernel_rfl) (by kernel_rfl) (by kernel_rfl) (by rfl) ?_
        iterate 3 (refine wpG_quiet (by rfl) (by rfl) (by rfl) (fun K hK => ?_); go_big_quiet_op; refine hK _ ?_; clear hK K)
        refine wpG_run (by rfl) (by rfl) (.agg (cc4 u).toArray) (fun w1 hl => exec_load 27 (.tmp 18) rfl ga (oa + k * 27) rfl (cc4 u) _ (HA.out w1 hl.1) hu rfl (by rw [HUL.out]; exact info_card)) ?_
        simp only [Act.put, List.setIfInBounds_toArray, List.set_cons_zero, List.set_cons_succ]
        iterate 3 (refine wpG_quiet (by rfl) (by rfl) (by rfl) (fun K hK => ?_); go_big_quiet_op; refine hK _ ?_; clear hK K)
        refine wpG_run (by rfl) (by rfl) (.agg (cc4 v).toArray) (fun w1 hl => exec_load 27 (.tmp 22) rfl gb (ob + k * 27) rfl (cc4 v) _ (HBB.out w1 hl.1) hu rfl (by rw [HVL.out]; exact info_card)) ?_
        simp only [Act.put, List.setIfInBounds_toArray, List.set_cons_zero, List.set_cons_succ]
        refine wpG_run (by rfl) (by rfl) (.bool (!true)) (fun w1 hl => exec_neq 27 _ (.tmp 19) (.tmp 23) rfl _ _ rfl rfl guard_card true (HQ.out w1)) ?_
        simp only [Act.put, List.setIfInBounds_toArray, List.set_cons_zero, List.set_cons_succ]
        refine wpG_nil fun w1 hl _ => ?_
        have hb1 := hbr.trans (hl.mono hbr.size)
        have RA1 := RA.later hl
        have RB1 := RB.later hl
        clear RA RB hbr
        go_wp2_with fail
        go_roundw
        case rel => exact ⟨k + 1, by omega, by go_num, Lib.hid (fun i h1 h2 hi => by
          by_cases e : i = k
          · subst e; rw [← HU2.out, ← HV2.out]; exact HE.out
          · exact HK.out i h1 h2 (by omega)), RA1, RB1, hb1⟩
        case measure => simp [intOf]; omega
      | false =>
        rw [huv] at HQ
        have HRR : Hid (R = false) := Lib.hid (by
          rw [Bool.eq_false_iff]
          intro e
          replace e := HR.out.1 e
          refine of_decide_eq_false huv ?_
          rw [HU2.out, HV2.out]
          subst e
          rfl)
        clear huv
        go_wp2_with fail
        refine wp_region_steady [] 26 (by kernel_rfl) (by kernel_rfl) (by kernel_rfl) (by rfl) ?_
        iterate 3 (refine wpG_quiet (by rfl) (by rfl) (by rfl) (fun K hK => ?_); go_big_quiet_op; refine hK _ ?_; clear hK K)
        refine wpG_run (by rfl) (by rfl) (.agg (cc4 u).toArray) (fun w1 hl => exec_load 27 (.tmp 18) rfl ga (oa + k * 27) rfl (cc4 u) _ (HA.out w1 hl.1) hu rfl (by rw [HUL.out]; exact info_card)) ?_
        simp only [Act.put, List.setIfInBounds_toArray, List.set_cons_zero, List.set_cons_succ]
        iterate 3 (refine wpG_quiet (by rfl) (by rfl) (by rfl) (fun K hK => ?_); go_big_quiet_op; refine hK _ ?_; clear hK K)
        refine wpG_run (by rfl) (by rfl) (.agg (cc4 v).toArray) (fun w1 hl => exec_load 27 (.tmp 22) rfl gb (ob + k * 27) rfl (cc4 v) _ (HBB.out w1 hl.1) hu rfl (by rw [HVL.out]; exact info_card)) ?_
        simp only [Act.put, List.setIfInBounds_toArray, List.set_cons_zero, List.set_cons_succ]
        refine wpG_run (by rfl) (by rfl) (.bool (!false)) (fun w1 hl => exec_neq 27 _ (.tmp 19) (.tmp 23) rfl _ _ rfl rfl guard_card false (HQ.out w1)) ?_
        simp only [Act.put, List.setIfInBounds_toArray, List.set_cons_zero, List.set_cons_succ]
        refine wpG_nil fun w1 hl _ => ?_
        have hb1 := hbr.trans (hl.mono hbr.size)
        clear RA RB hbr
        go_wp2_with fail
        go_ret
        exact ⟨by rw [HRR.out]; rfl, hb1⟩
    · obtain rfl : k = n := by omega
      have HRR : Hid (R = true) := Lib.hid (by
        exact HR.out.2 (List.ext_getElem (by rw [HLL.out, HML.out]) (fun i h1 h2 => HK.out i h1 h2 (by rw [HLL.out] at h1; exact h1))))
      go_wp2_with fail
      go_ret
      exact ⟨by rw [HRR.out]; rfl, hbr⟩
/-- Lists of unlike lengths. -/
theorem same_no (A B : Option Addr) (n c m d : Nat) (w : World) (h : n ≠ m) (hn : n ≤ 65536) (hm : m ≤ 65536) :
    Calls Try.prog 18 #[.slice A n c, .slice B m d] w fun e w' => e = .returned (.bool false) ∧ Below w.heap.size w w' := by
  have b1 : ((n : Int) != (m : Int)) = true := by rw [bne_iff_ne]; omega
  go_enter Try.func18, Try.ntmps18
  go_wp2_with fail
  go_ret
  exact ⟨rfl, Below.refl _ _⟩
end Go.Proofs.Ytgdidamjgaegkaa
