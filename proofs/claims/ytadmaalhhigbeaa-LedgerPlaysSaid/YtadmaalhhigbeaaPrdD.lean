/- Filters: nodes in memory, where trees end: what each returns. -/
import Derived.Test.YtadmaalhhigbeaaPrdA
namespace Go.Proofs.Ytadmaalhhigbeaa
set_option linter.unusedVariables false
set_option linter.unusedSimpArgs false
open Go Go.RowKit

theorem ncs_at (l : List Nd) (k : Nat) (hk : k < l.length) (j : Nat) (v : Value) (hj : (ncells l[k])[j]? = some v) : (ncs l)[k * 5 + j]? = some v := by
  have h := ncs_get l k hk
  have hj5 : j < 5 := by
    have := (List.getElem?_eq_some_iff.1 hj).1
    rwa [ncells_len] at this
  rw [← h, List.getElem?_take, if_pos hj5, List.getElem?_drop] at hj
  rw [show k * 5 + j = 5 * k + j by omega]
  exact hj
/-- A node of a list, where it lies. -/
theorem sees_node {w : World} {B : Nat} {A : Option Addr} {l : List Nd} (hs : Sees w B A (ncs l)) (k : Nat) (hk : k < l.length) :
    ∃ b o, A = some ⟨b, o, none⟩ ∧ b < B ∧ w.cell? ⟨b, o + k * 5, none⟩ = some (.int .i64 l[k].1) ∧ w.cell? ⟨b, o + k * 5 + 1, none⟩ = some (.int .i64 l[k].2.1) ∧ w.rangeAt b (o + k * 5) (ncells l[k]) := by
  obtain ⟨b, o, e, hb, hc⟩ := hs (by rw [ncs_len]; omega)
  have key : ∀ j v, (ncells l[k])[j]? = some v → w.cell? ⟨b, o + k * 5 + j, none⟩ = some v := fun j v hj => by
    have h1 := ncs_at l k hk j v hj
    obtain ⟨h2, h3⟩ := List.getElem?_eq_some_iff.1 h1
    have := hc (k * 5 + j) h2
    rw [h3] at this
    rw [Nat.add_assoc]
    exact this
  exact ⟨b, o, e, hb, key 0 _ rfl, key 1 _ rfl, key⟩

theorem end_step {l : List Nd} {a i k m : Nat} (h : endOf (l.drop a) 1 = (endOf (l.drop i) k).map (· + m)) (hk : k < k + 1 ∧ 0 < k) (hi : i < l.length) :
    endOf (l.drop a) 1 = (endOf (l.drop (i + 1)) (k - 1 + par l[i].1)).map (· + (m + 1)) := by
  obtain ⟨k', rfl⟩ : ∃ k', k = k' + 1 := ⟨k - 1, by omega⟩
  rw [h, List.drop_eq_getElem_cons hi, endOf_cons, Nat.add_sub_cancel, Option.map_map]
  congr 1
  funext x
  simp only [Function.comp]
  omega
theorem end_zero {l : List Nd} {a i m : Nat} (h : endOf (l.drop a) 1 = (endOf (l.drop i) 0).map (· + m)) (hm : i = a + m) : endAt l (a : Int) = (i : Int) := by
  rw [endAt_nat, h, endOf_zero]
  show (a : Int) + ((0 + m : Nat) : Int) = (i : Int)
  omega
theorem end_none {l : List Nd} {a i k m : Nat} (h : endOf (l.drop a) 1 = (endOf (l.drop i) k).map (· + m)) (hi : l.length ≤ i) (hk : 0 < k) : endAt l (a : Int) = -1 := by
  obtain ⟨k', rfl⟩ : ∃ k', k = k' + 1 := ⟨k - 1, by omega⟩
  rw [endAt_nat, h, List.drop_of_length_le hi]
  rfl

set_option maxRecDepth 100000 in
set_option maxHeartbeats 1600000 in
theorem end_any (A : Option Addr) (n c : Nat) (l : List Nd) (at_ : Int) (w : World) (B : Nat) (hn : l.length = n) (hs : Sees w B A (ncs l)) (hm : n ≤ 65536) :
    Calls Try.prog 63 #[.slice A n c, .int .i64 at_] w fun e w' => e = .returned (.int .i64 (endAt l at_)) ∧ w = w' := by
  by_cases h0 : at_ < 0
  · have HR := Lib.hid (endAt_neg l at_ h0)
    have d0 : decide (at_ < 0) = true := by simpa using h0
    clear h0 hs hn
    go_enter Try.func63, Try.ntmps63
    go_wp2
    go_ret
    exact ⟨by rw [HR.out]; rfl, rfl⟩
  · obtain ⟨a, rfl⟩ : ∃ a : Nat, at_ = a := ⟨at_.toNat, by omega⟩
    have d0 : decide ((a : Int) < 0) = false := by simp
    obtain ⟨R, hR⟩ : ∃ R, R = endAt l (a : Int) := ⟨_, rfl⟩
    rw [← hR]
    have HR := Lib.hid hR
    have HN := Lib.hid hn
    clear h0 hR hn
    go_enter Try.func63, Try.ntmps63
    go_wp2_with fail
    go_loop [1, 5] (fun p q => ∃ (i k m : Nat), Hid (i = a + m ∧ (m = 0 ∨ i ≤ n)) ∧ k ≤ m + 1 ∧ p = .int .i64 i ∧ q = .int .i64 k ∧ Hid (endOf (l.drop a) 1 = (endOf (l.drop i) k).map (· + m))) (fun p _ => n - (intOf p).toNat)
    case atStart => exact ⟨a, 1, 0, Lib.hid ⟨rfl, .inl rfl⟩, by omega, rfl, rfl, Lib.hid (by simp)⟩
    case round =>
      obtain ⟨i, k, m, HI, hkm, rfl, rfl, HE⟩ := hrel
      have hkb : k ≤ 65537 := by have := HI.out; omega
      by_cases hk : k = 0
      · subst hk
        have HRR := Lib.hid (HR.out.trans (end_zero HE.out HI.out.1))
        go_wp2_with fail
        go_ret
        exact ⟨by rw [HRR.out]; rfl, rfl⟩
      · have d1 : decide ((0 : Int) < (k : Int)) = true := by simp; omega
        by_cases hin : i < n
        · have d2 : decide ((n : Int) ≤ (i : Int)) = false := by simp; omega
          have hil : i < l.length := by rw [HN.out]; exact hin
          obtain ⟨b, o, rfl, hb, hc, _⟩ := sees_node hs i hil
          have HS := Lib.hid (end_step HE.out ⟨by omega, by omega⟩ hil)
          obtain ⟨op, hop⟩ : ∃ op, op = l[i].1 := ⟨_, rfl⟩
          rw [← hop] at hc HS
          have HP := Lib.hid (parts_any op w)
          obtain ⟨pp, hpp⟩ : ∃ pp, pp = par op := ⟨_, rfl⟩
          have hp2 : pp ≤ 2 := by rw [hpp]; exact par_le op
          rw [← hpp] at HS HP
          have hM := Lib.hid hm
          clear hop hpp
          go_wp2_with fail
          refine HP.out.mono ?_
          rintro e w' ⟨rfl, rfl⟩
          go_wp2_with fail
          go_round
          case rel => exact ⟨i + 1, k - 1 + pp, m + 1, Lib.hid ⟨by have := HI.out.1; omega, .inr (by omega)⟩, by omega, by go_num, by go_num, HS⟩
          case measure => simp [intOf]; omega
        · have d2 : decide ((n : Int) ≤ (i : Int)) = true := by simp; omega
          have HRR := Lib.hid (HR.out.trans (end_none HE.out (by rw [HN.out]; omega) (by omega)))
          go_wp2_with fail
          go_ret
          exact ⟨by rw [HRR.out]; rfl, rfl⟩

set_option maxRecDepth 100000 in
set_option maxHeartbeats 1600000 in
theorem rend_any (A : Option Addr) (n c : Nat) (l : List Nd) (at_ : Int) (w : World) (B : Nat) (hn : l.length = n) (hs : Sees w B A (ncs l)) (hm : n ≤ 65536) :
    Calls Try.prog 67 #[.slice A n c, .int .i64 at_] w fun e w' => e = .returned (.int .i64 (endAt l at_)) ∧ w = w' := by
  by_cases h0 : at_ < 0
  · have HR := Lib.hid (endAt_neg l at_ h0)
    have d0 : decide (at_ < 0) = true := by simpa using h0
    clear h0 hs hn
    go_enter Try.func67, Try.ntmps67
    go_wp2
    go_ret
    exact ⟨by rw [HR.out]; rfl, rfl⟩
  · obtain ⟨a, rfl⟩ : ∃ a : Nat, at_ = a := ⟨at_.toNat, by omega⟩
    have d0 : decide ((a : Int) < 0) = false := by simp
    obtain ⟨R, hR⟩ : ∃ R, R = endAt l (a : Int) := ⟨_, rfl⟩
    rw [← hR]
    have HR := Lib.hid hR
    have HN := Lib.hid hn
    clear h0 hR hn
    go_enter Try.func67, Try.ntmps67
    go_wp2_with fail
    go_loop [1, 5] (fun p q => ∃ (i k m : Nat), Hid (i = a + m ∧ (m = 0 ∨ i ≤ n)) ∧ k ≤ m + 1 ∧ p = .int .i64 i ∧ q = .int .i64 k ∧ Hid (endOf (l.drop a) 1 = (endOf (l.drop i) k).map (· + m))) (fun p _ => n - (intOf p).toNat)
    case atStart => exact ⟨a, 1, 0, Lib.hid ⟨rfl, .inl rfl⟩, by omega, rfl, rfl, Lib.hid (by simp)⟩
    case round =>
      obtain ⟨i, k, m, HI, hkm, rfl, rfl, HE⟩ := hrel
      have hkb : k ≤ 65537 := by have := HI.out; omega
      by_cases hin : i < n
      · have d2 : decide ((i : Int) < (n : Int)) = true := by simp; omega
        by_cases hk : k = 0
        · subst hk
          have HRR := Lib.hid (HR.out.trans (end_zero HE.out HI.out.1))
          go_wp2_with fail
          go_ret
          exact ⟨by rw [HRR.out]; rfl, rfl⟩
        · have d1 : decide ((0 : Int) < (k : Int)) = true := by simp; omega
          have hil : i < l.length := by rw [HN.out]; exact hin
          obtain ⟨b, o, rfl, hb, hc, _⟩ := sees_node hs i hil
          have HS := Lib.hid (end_step HE.out ⟨by omega, by omega⟩ hil)
          obtain ⟨op, hop⟩ : ∃ op, op = l[i].1 := ⟨_, rfl⟩
          rw [← hop] at hc HS
          have HP := Lib.hid (rparts_any op w)
          obtain ⟨pp, hpp⟩ : ∃ pp, pp = par op := ⟨_, rfl⟩
          have hp2 : pp ≤ 2 := by rw [hpp]; exact par_le op
          rw [← hpp] at HS HP
          clear hop hpp
          go_wp2_with fail
          refine HP.out.mono ?_
          rintro e w' ⟨rfl, rfl⟩
          go_wp2_with fail
          go_round
          case rel => exact ⟨i + 1, k - 1 + pp, m + 1, Lib.hid ⟨by have := HI.out.1; omega, .inr (by omega)⟩, by omega, by go_num, by go_num, HS⟩
          case measure => simp [intOf]; omega
      · have d2 : decide ((i : Int) < (n : Int)) = false := by simp; omega
        by_cases hk : k = 0
        · subst hk
          have HRR := Lib.hid (HR.out.trans (end_zero HE.out HI.out.1))
          go_wp2_with fail
          go_ret
          exact ⟨by rw [HRR.out]; rfl, rfl⟩
        · have d1 : decide ((0 : Int) < (k : Int)) = true := by simp; omega
          have HRR := Lib.hid (HR.out.trans (end_none HE.out (by rw [HN.out]; omega) (by omega)))
          go_wp2_with fail
          go_ret
          exact ⟨by rw [HRR.out]; rfl, rfl⟩
end Go.Proofs.Ytadmaalhhigbeaa
