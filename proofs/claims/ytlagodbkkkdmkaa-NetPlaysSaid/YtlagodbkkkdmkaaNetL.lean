/- Nets: acts, as the law has them; its own to and long. -/
import Derived.Test.YtlagodbkkkdmkaaNetK
import Derived.Test.YtlagodbkkkdmkaaPrdM
namespace Go.Proofs.Ytlagodbkkkdmkaa
set_option linter.unusedVariables false
set_option linter.unusedSimpArgs false
open Go Go.RowKit Go.MuLone

theorem ncs_at (l : List Nd) (k : Nat) (hk : k < l.length) (j : Nat) (v : Value) (hj : (ncells l[k])[j]? = some v) : (ncs l)[k * 5 + j]? = some v := by
  have h := ncs_get l k hk
  have hj5 : j < 5 := by
    have := (List.getElem?_eq_some_iff.1 hj).1
    rwa [ncells_len] at this
  rw [← h, List.getElem?_take, if_pos hj5, List.getElem?_drop] at hj
  rw [show k * 5 + j = 5 * k + j by omega]
  exact hj
/-- A node of a list, where it lies. -/
theorem sees_node {w : World} {B : Nat} {A : Option Addr} {l : List Nd} (hs : Sees w B A (ncs l)) (k : Nat) (hk : k < l.length) :
    ∃ b o, A = some ⟨b, o, none⟩ ∧ b < B ∧ w.cell? ⟨b, o + k * 5, none⟩ = some (.int .i64 l[k].1) ∧ w.cell? ⟨b, o + k * 5 + 1, none⟩ = some (.int .i64 l[k].2.1) ∧ w.rangeAt b (o + k * 5) (ncells l[k]) := by
  obtain ⟨b, o, e, hb, hc⟩ := hs (by rw [ncs_len]; omega)
  have key : ∀ j v, (ncells l[k])[j]? = some v → w.cell? ⟨b, o + k * 5 + j, none⟩ = some v := fun j v hj => by
    have h1 := ncs_at l k hk j v hj
    obtain ⟨h2, h3⟩ := List.getElem?_eq_some_iff.1 h1
    have := hc (k * 5 + j) h2
    rw [h3] at this
    rw [Nat.add_assoc]
    exact this
  exact ⟨b, o, e, hb, key 0 _ rfl, key 1 _ rfl, key⟩


set_option maxHeartbeats 1600000 in
theorem net_to (v : V3) (w : World) : Calls Try.prog 26 #[.agg (vcells v).toArray] w fun e w' => e = .returned (.agg (vcells v).toArray) ∧ Below w.heap.size w w' := by
  obtain ⟨v0, v1, v2⟩ := v
  have hu := Try.underlying59
  have B0 := (Blk.new w [.int .i64 v0, .int .i64 v1, .string v2] 56).alloc (.cells #[.int .i64 0, .int .i64 0, .string ⟨#[]⟩] 59)
  have h0 := B0.cell (j := 0) rfl
  have h1 := B0.cell (j := 1) rfl
  have h2 := B0.cell (j := 2) rfl
  obtain ⟨W, hW⟩ : ∃ W, W = ((w.alloc (.cells #[.int .i64 v0, .int .i64 v1, .string v2] 56)).alloc (.cells #[.int .i64 0, .int .i64 0, .string ⟨#[]⟩] 59)).setCells (w.alloc (.cells #[.int .i64 v0, .int .i64 v1, .string v2] 56)).heap.size 0 (vcells (v0, v1, v2)) := ⟨_, rfl⟩
  obtain ⟨F, B, _⟩ := pk_put _ W (v0, v1, v2) _ rfl hW
  have TH := pk_there (w.alloc (.cells #[.int .i64 v0, .int .i64 v1, .string v2] 56)) 3 rfl
  have hsz : (w.alloc (.cells #[.int .i64 v0, .int .i64 v1, .string v2] 56)).heap.size = w.heap.size + 1 := by simp
  rw [hsz] at F TH hW
  have HW := Lib.hid hW
  have HB := Lib.hid (((Below.refl w.heap.size w).alloc (Nat.le_refl _) (.cells #[.int .i64 v0, .int .i64 v1, .string v2] 56)).trans (B.mono (by simp)))
  clear B hW hsz B0
  show Calls Try.prog 26 #[.agg #[.int .i64 v0, .int .i64 v1, .string v2]] w _
  go_enter Try.func26, Try.ntmps26
  go_wp2_with (first
    | (refine wpList_store_mid rfl 59 (.tmp 2) (.tmp 9) rfl (w.heap.size + 1) 0 (vcells (v0, v1, v2)).toArray rfl rfl TH info_pk (all_oneCell_toArray (vcells_one (v0, v1, v2))) ?_
       rw [show ((w.alloc (.cells #[.int .i64 v0, .int .i64 v1, .string v2] 56)).alloc (.cells #[.int .i64 0, .int .i64 0, .string ⟨#[]⟩] 59)).setCells (w.heap.size + 1) 0 (vcells (v0, v1, v2)).toArray.toList = W from HW.out.symm])
    | fail)
  exact bodyPost_ret (v := .agg (vcells (v0, v1, v2)).toArray) (results_blk (q := 2) rfl _ _ (w.heap.size + 1) (vcells (v0, v1, v2)) _ rfl F hu rfl info_pk) rfl ⟨rfl, HB.out⟩

/-- More acts, or longer ones, than are looked at. -/
def alng (l : List Nd) : Bool := decide (100 < l.length) || l.any fun n => decide (1000 < n.2.2.2.2.size)
set_option maxRecDepth 100000 in
set_option maxHeartbeats 31000000 in
theorem along_any (A : Option Addr) (n c : Nat) (l : List Nd) (w : World) (B : Nat) (hn : l.length = n) (hs : Sees w B A (ncs l)) :
    Calls Try.prog 22 #[.slice A n c] w fun e w' => e = .returned (.bool (alng l)) ∧ w = w' := by
  by_cases h31 : 100 < n
  · have HR : Hid (alng l = true) := Lib.hid (by unfold alng; rw [hn, decide_eq_true h31]; rfl)
    have d0 : decide ((100 : Int) < (n : Int)) = true := by simp; omega
    clear hs hn
    go_enter Try.func22, Try.ntmps22
    go_wp2_with fail
    go_ret
    exact ⟨by rw [HR.out]; rfl, rfl⟩
  · have d0 : decide ((100 : Int) < (n : Int)) = false := by simp; omega
    have d0n : decide (100 < n) = false := by simp; omega
    have HR : Hid (alng l = l.any fun n => decide (1000 < n.2.2.2.2.size)) := Lib.hid (by unfold alng; rw [hn, decide_eq_false h31]; rfl)
    have HN := Lib.hid hn
    have hn31 : n ≤ 100 := by omega
    obtain ⟨R, hR⟩ : ∃ R, R = alng l := ⟨_, rfl⟩
    rw [← hR] at HR ⊢
    clear hR hn h31
    go_enter Try.func22, Try.ntmps22
    go_wp2_with fail
    go_loop [3] (fun i => ∃ k : Nat, k ≤ n ∧ i = .int .i64 k ∧ Hid (((l.take k).any fun n => decide (1000 < n.2.2.2.2.size)) = false)) (fun i => n - (intOf i).toNat)
    case atStart => exact ⟨0, by omega, rfl, Lib.hid rfl⟩
    case round =>
      obtain ⟨k, hk, rfl, HK⟩ := hrel
      by_cases hlt : k < n
      · have hkl : k < l.length := by rw [HN.out]; exact hlt
        have d1 : decide ((k : Int) < (n : Int)) = true := by simp; omega
        obtain ⟨b, o, rfl, hb, hcc, hc2, hrg⟩ := sees_node hs k hkl
        have hcs : w.cell? ⟨b, o + k * 5 + 4, none⟩ = some (.string l[k].2.2.2.2) := hrg 4 _ rfl
        clear hcc hc2 hrg
        have HN2 : Hid (((l.take (k + 1)).any fun n => decide (1000 < n.2.2.2.2.size)) = decide (1000 < l[k].2.2.2.2.size)) := Lib.hid (by
          rw [List.take_succ_eq_append_getElem hkl, List.any_append, HK.out]
          simp)
        have HTR : Hid (((l.take (k + 1)).any fun n => decide (1000 < n.2.2.2.2.size)) = true → R = true) := Lib.hid (fun h => by
          rw [HR.out, ← List.take_append_drop (k + 1) l, List.any_append, h]
          rfl)
        obtain ⟨s, hs2⟩ : ∃ s, s = l[k].2.2.2.2 := ⟨_, rfl⟩
        rw [← hs2] at hcs HN2
        clear hs2
        by_cases hgt : 1000 < s.size
        · have d2 : decide ((1000 : Int) < (s.size : Int)) = true := by simp; omega
          have HRR : Hid (R = true) := Lib.hid (HTR.out (by rw [HN2.out, decide_eq_true hgt]))
          go_wp2_with fail
          go_ret
          exact ⟨by rw [HRR.out]; rfl, rfl⟩
        · have d2 : decide ((1000 : Int) < (s.size : Int)) = false := by simp; omega
          have HK2 := Lib.hid (HN2.out.trans (decide_eq_false hgt))
          go_wp2_with fail
          go_round
          case rel => exact ⟨k + 1, by omega, by go_num, HK2⟩
          case measure => simp [intOf]; omega
      · obtain rfl : k = n := by omega
        have HRR : Hid (R = false) := Lib.hid (by have := HK.out; rw [List.take_of_length_le (by rw [HN.out]; exact Nat.le_refl _)] at this; rw [HR.out, this])
        go_wp2_with fail
        go_ret
        exact ⟨by rw [HRR.out]; rfl, rfl⟩
end Go.Proofs.Ytlagodbkkkdmkaa
