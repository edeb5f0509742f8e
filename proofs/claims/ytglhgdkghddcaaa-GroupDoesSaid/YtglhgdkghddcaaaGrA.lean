/- Groups: which lists are too long to look at; which numbers may be; where a group stands, by the document: what is returned. -/
import Derived.Test.YtglhgdkghddcaaaGrM
import Derived.Test.YtglhgdkghddcaaaSteady
namespace Go.Proofs.Ytglhgdkghddcaaa
set_option linter.unusedVariables false
set_option linter.unusedSimpArgs false
open Go Go.RowKit IdsM

set_option maxRecDepth 100000 in
set_option maxHeartbeats 1600000 in
theorem large_any (A : Option Addr) (n c : Nat) (l : List Gp) (w : World) (h : SeesG w A n c l) :
    Calls Try.prog 6 #[.slice A n c] w fun e w' => e = .returned (.bool (glarge l)) ∧ Below w.heap.size w w' := by
  have HS := Lib.hid h
  have hn := h.len
  by_cases h40 : 40 < n
  · have HR := Lib.hid (glarge_more (l := l) (by omega))
    have d0 : decide ((40 : Int) < (n : Int)) = true := decide_eq_true (by omega)
    clear h hn
    go_enter Try.func6, Try.ntmps6
    go_wp2_with fail
    go_ret
    exact ⟨by rw [HR.out]; rfl, Below.refl _ _⟩
  · have d0 : decide ((40 : Int) < (n : Int)) = false := decide_eq_false (by omega)
    have HN := Lib.hid hn
    have HONE := Lib.hid (fun k (hk : k < l.length) (hb : 100 < l[k].n) => glarge_one k hk hb)
    have HNO := Lib.hid (fun (hb : ∀ i (hi : i < l.length), l[i].n ≤ 100) => glarge_no (by omega) hb)
    obtain ⟨R, hR⟩ : ∃ R, R = glarge l := ⟨_, rfl⟩
    rw [← hR] at HONE HNO ⊢
    clear hR h hn
    go_enter Try.func6, Try.ntmps6
    go_wp2_with fail
    go_loopw [3] (fun i wr => ∃ k : Nat, k ≤ n ∧ i = .int .i64 (k : Int) ∧ Hid (∀ j (hj : j < l.length), j < k → l[j].n ≤ 100) ∧ Hid (Below w.heap.size w wr)) (fun i _ => n - (intOf i).toNat)
    case atStart => exact ⟨0, by omega, rfl, Lib.hid (fun _ _ hj => absurd hj (by omega)), Lib.hid (Below.refl _ _)⟩
    case round =>
      obtain ⟨k, hk, rfl, HK, HB⟩ := hrel
      by_cases hlt : k < n
      · have d1 : decide ((k : Int) < (n : Int)) = true := decide_eq_true (by omega)
        have hkl : k < l.length := by rw [HN.out]; exact hlt
        obtain ⟨b, o, rfl, _, hg⟩ := HS.out.get k hkl
        obtain ⟨_, _, cc, _⟩ := hg wr HB.out
        obtain ⟨q, hq⟩ : ∃ q, q = l[k].n := ⟨_, rfl⟩
        rw [← hq] at cc
        have HQ := Lib.hid hq
        clear hg hq
        by_cases h1 : 100 < q
        · have d2 : decide ((100 : Int) < (q : Int)) = true := decide_eq_true (by omega)
          have HR := Lib.hid (HONE.out k hkl (by rw [← HQ.out]; exact h1))
          clear h1
          go_wp2_with fail
          go_ret
          exact ⟨by rw [HR.out]; rfl, HB.out⟩
        · have d2 : decide ((100 : Int) < (q : Int)) = false := decide_eq_false (by omega)
          go_wp2_with fail
          go_roundw
          case rel => exact ⟨k + 1, by omega, by go_num, Lib.hid (fun j hj hjk => by
            by_cases e : j = k
            · subst e; rw [← HQ.out]; omega
            · exact HK.out j hj (by omega)), HB⟩
          case measure => simp [intOf]; omega
      · obtain rfl : k = n := by omega
        have HR := Lib.hid (HNO.out (fun i hi => HK.out i hi (by rw [HN.out] at hi; exact hi)))
        go_wp2_with fail
        go_ret
        exact ⟨by rw [HR.out]; rfl, HB.out⟩

theorem grp_any (x : Int) (w : World) : Calls Try.prog 30 #[.int .i64 x] w fun e w' => e = .returned (.bool (decide (0 ≤ x ∧ x < 16))) ∧ w = w' := by
  by_cases h1 : 0 ≤ x
  · by_cases h2 : x < 16
    · have d1 : decide (0 ≤ x ∧ x < 16) = true := decide_eq_true ⟨h1, h2⟩
      rw [d1]
      go_enter Try.func30, Try.ntmps30
      go_wp2
      go_ret
      exact ⟨by first | rfl | simp [h1, h2], rfl⟩
    · have d1 : decide (0 ≤ x ∧ x < 16) = false := decide_eq_false (fun e => h2 e.2)
      rw [d1]
      go_enter Try.func30, Try.ntmps30
      go_wp2
      go_ret
      exact ⟨by first | rfl | simp [h1, h2], rfl⟩
  · have d1 : decide (0 ≤ x ∧ x < 16) = false := decide_eq_false (fun e => h1 e.1)
    rw [d1]
    go_enter Try.func30, Try.ntmps30
    go_wp2
    go_ret
    exact ⟨by first | rfl | simp [h1], rfl⟩

theorem crd_any (x : Int) (w : World) : Calls Try.prog 63 #[.int .i64 x] w fun e w' => e = .returned (.bool (decide (1 ≤ x ∧ x < 1073741824))) ∧ w = w' := by
  by_cases h1 : 1 ≤ x
  · by_cases h2 : x < 1073741824
    · have d1 : decide (1 ≤ x ∧ x < 1073741824) = true := decide_eq_true ⟨h1, h2⟩
      rw [d1]
      go_enter Try.func63, Try.ntmps63
      go_wp2
      go_ret
      exact ⟨by first | rfl | simp [h1, h2], rfl⟩
    · have d1 : decide (1 ≤ x ∧ x < 1073741824) = false := decide_eq_false (fun e => h2 e.2)
      rw [d1]
      go_enter Try.func63, Try.ntmps63
      go_wp2
      go_ret
      exact ⟨by first | rfl | simp [h1, h2], rfl⟩
  · have d1 : decide (1 ≤ x ∧ x < 1073741824) = false := decide_eq_false (fun e => h1 e.1)
    rw [d1]
    go_enter Try.func63, Try.ntmps63
    go_wp2
    go_ret
    exact ⟨by first | rfl | simp [h1], rfl⟩

set_option maxRecDepth 100000 in
set_option maxHeartbeats 1600000 in
theorem rplace_any (A : Option Addr) (n c : Nat) (l : List Gp) (g : Int) (w : World) (h : SeesG w A n c l) (hz : n ≤ 65536) :
    Calls Try.prog 37 #[.slice A n c, .int .i64 g] w fun e w' => e = .returned (.int .i64 (gat l g)) ∧ Below w.heap.size w w' := by
  have HS := Lib.hid h
  have HN := Lib.hid h.len
  have HYES := Lib.hid (fun k (hk : k < l.length) (e : l[k].no = g) (hb : ∀ i (hi : i < l.length), i < k → l[i].no ≠ g) => gat_here k hk e hb)
  have HNO := Lib.hid (fun (hb : ∀ i (hi : i < l.length), l[i].no ≠ g) => gat_none hb)
  obtain ⟨R, hR⟩ : ∃ R, R = gat l g := ⟨_, rfl⟩
  rw [← hR] at HYES HNO ⊢
  clear hR h
  go_enter Try.func37, Try.ntmps37
  go_wp2_with fail
  go_loopw [5] (fun i wr => ∃ k : Nat, k ≤ n ∧ i = .int .i64 (k : Int) ∧ Hid (∀ j (hj : j < l.length), j < k → l[j].no ≠ g) ∧ Hid (Below w.heap.size w wr)) (fun i _ => n - (intOf i).toNat)
  case atStart => exact ⟨0, by omega, rfl, Lib.hid (fun _ _ hj => absurd hj (by omega)), Lib.hid (Below.refl _ _)⟩
  case round =>
    obtain ⟨k, hk, rfl, HK, HB⟩ := hrel
    by_cases hlt : k < n
    · have d1 : decide ((k : Int) < (n : Int)) = true := decide_eq_true (by omega)
      have hkl : k < l.length := by rw [HN.out]; exact hlt
      obtain ⟨b, o, rfl, _, hg⟩ := HS.out.get k hkl
      obtain ⟨_, cc, _, _⟩ := hg wr HB.out
      obtain ⟨q, hq⟩ : ∃ q, q = l[k].no := ⟨_, rfl⟩
      rw [← hq] at cc
      have HQ := Lib.hid hq
      clear hg hq
      by_cases h1 : q = g
      · have b1 : (q == g) = true := by simpa using h1
        have HR := Lib.hid (HYES.out k hkl (by rw [← HQ.out]; exact h1) HK.out)
        clear h1
        go_wp2_with fail
        go_ret
        exact ⟨by rw [HR.out]; rfl, HB.out⟩
      · have b1 : (q == g) = false := by simpa using h1
        have H1 := Lib.hid h1
        clear h1
        go_wp2_with fail
        go_roundw
        case rel => exact ⟨k + 1, by omega, by go_num, Lib.hid (fun j hj hjk => by
          by_cases e : j = k
          · subst e; rw [← HQ.out]; exact H1.out
          · exact HK.out j hj (by omega)), HB⟩
        case measure => simp [intOf]; omega
    · obtain rfl : k = n := by omega
      have HR := Lib.hid (HNO.out (fun i hi => HK.out i hi (by rw [HN.out] at hi; exact hi)))
      go_wp2_with fail
      go_ret
      exact ⟨by rw [HR.out]; rfl, HB.out⟩
end Go.Proofs.Ytglhgdkghddcaaa
