/- Lists of numbers: the document's Check, Has, and when two lists are alike: what each returns. -/
import Derived.Test.YtglhgdkghddcaaaWords
import Derived.Test.YtglhgdkghddcaaaIdsMath
namespace Go.Proofs.Ytglhgdkghddcaaa
set_option linter.unusedVariables false
open Go.RowKit IdsM

theorem int_info : (Try.prog.info? 3).map (fun i => (i.zero, i.size, i.bytes)) = some (some (.int .i64 0), 1, 8) := by kernel_rfl

theorem ref_has (A : Option Addr) (n c : Nat) (l : List Int) (id : Int) (w : World) (B : Nat) (hn : l.length = n) (hs : Sees w B A (ivs l)) (hm : n ≤ 65536) :
    Calls Try.prog 28 #[.slice A n c, .int .i64 id] w fun e w' => e = .returned (.bool (decide (id ∈ l))) ∧ w = w' := by
  subst hn
  go_enter Try.func28, Try.ntmps28
  go_wp2
  go_loop [5] (fun i => ∃ k : Nat, k ≤ l.length ∧ i = .int .i64 k ∧ id ∉ l.take k) (fun i => l.length - (intOf i).toNat)
  case atStart => exact ⟨0, Nat.zero_le _, rfl, by simp⟩
  case round =>
    obtain ⟨k, hk, rfl, hnot⟩ := hrel
    by_cases hlt : k < l.length
    · obtain ⟨b, o, rfl, hb, hc⟩ := hs.int k hlt
      obtain ⟨x, hx⟩ : ∃ x, x = l[k] := ⟨_, rfl⟩
      rw [← hx] at hc
      have HX := Lib.hid hx
      have HN := Lib.hid hnot
      clear hx hnot
      by_cases he : x = id
      · have hb1 : (x == id) = true := by simp [he]
        have HE := Lib.hid he
        clear he
        go_wp2
        go_ret
        refine ⟨?_, rfl⟩
        have : id ∈ l := by rw [← HE.out, HX.out]; exact List.getElem_mem hlt
        simp [this]
      · have hb1 : (x == id) = false := by simp [he]
        have HE := Lib.hid he
        clear he
        go_wp2
        go_round
        case rel =>
          refine ⟨k + 1, by omega, by go_num, ?_⟩
          rw [List.take_succ_eq_append_getElem hlt, List.mem_append]
          rintro (h | h)
          · exact HN.out h
          · rw [List.mem_singleton] at h
            exact HE.out (by rw [HX.out, h])
        case measure => simp [intOf]; omega
    · obtain rfl : k = l.length := by omega
      rw [List.take_length] at hnot
      have HN := Lib.hid hnot
      clear hnot
      go_wp2
      go_ret
      exact ⟨by simp [HN.out], rfl⟩

theorem ref_ints (A : Option Addr) (n c : Nat) (l : List Int) (A' : Option Addr) (n' c' : Nat) (l' : List Int) (w : World) (hn : l.length = n) (hs : Sees w w.heap.size A (ivs l)) (hn' : l'.length = n') (hs' : Sees w w.heap.size A' (ivs l')) (hm : n ≤ 65536) (hm' : n' ≤ 65536) :
    Calls Try.prog 20 #[.slice A n c, .slice A' n' c'] w fun e w' => e = .returned (.bool (decide (l = l'))) ∧ Below w.heap.size w w' := by
  by_cases hne : n = n'
  · subst hne
    have hbe : ((n : Int) != (n : Int)) = false := by simp
    go_enter Try.func20, Try.ntmps20
    go_wp2
    go_loopw [5] (fun i wr => ∃ k : Nat, k ≤ n ∧ i = .int .i64 k ∧ l.take k = l'.take k ∧ Below w.heap.size w wr) (fun i _ => n - (intOf i).toNat)
    case atStart => exact ⟨0, Nat.zero_le _, rfl, by simp, Below.refl _ _⟩
    case round =>
      obtain ⟨k, hk, rfl, hpre, hbr⟩ := hrel
      by_cases hlt : k < n
      · have hkl : k < l.length := by omega
        have hkl' : k < l'.length := by omega
        obtain ⟨b, o, rfl, hb, hc⟩ := (hs.below hbr).int k hkl
        obtain ⟨b', o', rfl, hb', hc'⟩ := (hs'.below hbr).int k hkl'
        obtain ⟨x, hx⟩ : ∃ x, x = l[k] := ⟨_, rfl⟩
        obtain ⟨y, hy⟩ : ∃ y, y = l'[k] := ⟨_, rfl⟩
        rw [← hx] at hc
        rw [← hy] at hc'
        have HX := Lib.hid hx
        have HY := Lib.hid hy
        have HP := Lib.hid hpre
        have HN := Lib.hid hn
        have HN' := Lib.hid hn'
        clear hx hy hpre hn hn'
        by_cases he : x = y
        · have hb1 : (x != y) = false := by simp [he]
          have HE := Lib.hid he
          clear he
          go_wp2
          go_quiet (fail)
          go_wp2
          go_roundw
          case rel =>
            refine ⟨k + 1, by omega, by go_num, ?_, below_drewN hbr _⟩
            rw [List.take_succ_eq_append_getElem hkl, List.take_succ_eq_append_getElem hkl', HP.out, ← HX.out, ← HY.out, HE.out]
          case measure => simp [intOf]; omega
        · have hb1 : (x != y) = true := by simp [he]
          have HE := Lib.hid he
          clear he
          go_wp2
          go_quiet (fail)
          go_wp2
          go_ret
          refine ⟨?_, below_drewN hbr _⟩
          have : l ≠ l' := by
            rintro rfl
            exact HE.out (by rw [HX.out, HY.out])
          simp [this]
      · obtain rfl : k = n := by omega
        have hl : l = l' := by
          rw [List.take_of_length_le (by omega), List.take_of_length_le (by omega)] at hpre
          exact hpre
        have HL := Lib.hid hl
        clear hpre hl hn hn'
        go_wp2
        go_ret
        exact ⟨by simp [HL.out], hbr⟩
  · have hbe : ((n : Int) != (n' : Int)) = true := by rw [bne_iff_ne]; omega
    have hne2 : l ≠ l' := by rintro rfl; omega
    have HNE := Lib.hid hne2
    clear hne hne2 hn hn'
    go_enter Try.func20, Try.ntmps20
    go_wp2
    go_ret
    exact ⟨by simp [HNE.out], Below.refl _ _⟩
end Go.Proofs.Ytglhgdkghddcaaa
