/- slices.Grow and slices.Concat of bytes; a mask's values as bytes: what each returns. -/
import Derived.Test.YticdpfjajkfheaaWirA
import Derived.Test.YticdpfjajkfheaaCardB
import Derived.Test.YticdpfjajkfheaaEachA
import Derived.Lib.AppendZeros
namespace Go.Proofs.Yticdpfjajkfheaa
set_option linter.unusedVariables false
open Go Go.RowKit BitM OctM

set_option maxHeartbeats 1600000 in
theorem grow_any (n : Nat) (w : World) (hn : n ≤ 100000) : Calls Try.prog 58 #[.slice none 0 0, .int .i64 (n : Int)] w fun e w' =>
    ∃ A c, e = .returned (.slice A 0 c) ∧ Own w' w.heap.size 5 (.slice A 0 c) [] ∧ Below w.heap.size w w' := by
  obtain ⟨i0, hi, hz0, hz1, hz2⟩ := oct_parts
  by_cases h0 : n = 0
  · subst h0
    go_enter Try.func58, Try.ntmps58
    go_wp2_with fail
    go_ret
    exact ⟨none, 0, rfl, Own.nil_ _ _ _, Below.refl _ _⟩
  · have hp : 0 < n := by omega
    have hpi : (0 : Int) < (n : Int) := by omega
    clear h0
    go_enter Try.func58, Try.ntmps58
    go_wp2_with (first
      | (at_builtin
         refine Lib.wpList_append_run _ rfl (.tmp 20) (.tmp 21) _ _ rfl _ _ rfl rfl _ _ (Lib.run_append_nil_zeros w 30 3 _ 5 i0 (.int .u8 0) .i64 .i64 Try.underlying30 Try.underlying3 hi hz0 n hp (by omega) (by omega) (by rw [hz2]; omega)) ?_)
      | fail)
    obtain ⟨G, hG⟩ : ∃ G, G = grownCap w n 0 5 := ⟨_, rfl⟩
    have hge : n ≤ G := by rw [hG]; exact grownCap_ge w n 0 _
    have hle : G ≤ maxLen := by rw [hG]; exact grownCap_le_maxLen w n 0 _ (by unfold maxLen; omega)
    rw [← hG]
    go_ret
    refine ⟨_, _, rfl, ⟨rfl, .inr ⟨w.heap.size, G, _, rfl, Nat.le_refl _, heap_alloc_new w.drew _, Nat.zero_le _, hle, ?_, rfl⟩⟩, (Below.refl w.heap.size w).drew.alloc (Nat.le_refl _) _⟩
    rw [Array.size_append, size_zeroCells, size_zeroCells]
    show n * 1 + (G - n) * 1 = G * 1
    omega

def FlatAt (w : World) (g : Nat) (ls : List (List UInt8)) : Prop := ∀ (k : Nat) (h : k < ls.length), ∃ A c, w.cell? ⟨g, k, none⟩ = some (.slice A ls[k].length c) ∧ Sees w w.heap.size A (bvs ls[k])
theorem FlatAt.below {w w' : World} {g : Nat} {ls : List (List UInt8)} (h : FlatAt w g ls) (hg : g < w.heap.size) (hb : Below w.heap.size w w') : FlatAt w' g ls := fun k hk => by
  obtain ⟨A, c, h1, h2⟩ := h k hk
  exact ⟨A, c, (hb.cell (p := ⟨g, k, none⟩) hg).trans h1, (h2.below hb).more hb.size⟩
theorem flat_take {ls : List (List UInt8)} {k : Nat} (h : k < ls.length) : (ls.take (k + 1)).flatten = (ls.take k).flatten ++ ls[k] := by
  rw [List.take_succ_eq_append_getElem h, List.flatten_append]; simp
theorem flat_le {ls : List (List UInt8)} (k : Nat) : (ls.take k).flatten.length ≤ ls.flatten.length := by
  conv => rhs; rw [← List.take_append_drop k ls, List.flatten_append, List.length_append]
  omega

set_option maxRecDepth 100000 in
set_option maxHeartbeats 3200000 in
theorem concat_any (g N c0 : Nat) (ls : List (List UInt8)) (w : World) (hN : ls.length = N) (hg : g < w.heap.size) (hf : FlatAt w g ls) (hN9 : N ≤ 100000) (hm : ls.flatten.length ≤ 100000) :
    Calls Try.prog 35 #[.slice (some ⟨g, 0, none⟩) N c0] w (GivesBytes w ls.flatten) := by
  obtain ⟨i0, hi, hz0, hz1, hz2⟩ := oct_parts
  have HF := Lib.hid (fun (wx : World) (hb : Below w.heap.size w wx) => hf.below hg hb)
  have HN := Lib.hid hN
  have HM := Lib.hid hm
  obtain ⟨R, hR⟩ : ∃ R, R = ls.flatten := ⟨_, rfl⟩
  have HR := Lib.hid hR
  rw [← hR]
  clear hf hN hm hR
  go_enter Try.func35, Try.ntmps35
  go_wp2_with fail
  go_loop [3, 11] (fun s i => ∃ k tot : Nat, k ≤ N ∧ i = .int .i64 k ∧ s = .int .i64 tot ∧ tot ≤ 100000 ∧ Hid (tot = (ls.take k).flatten.length)) (fun _ i => N - (intOf i).toNat)
  case atStart => exact ⟨0, 0, Nat.zero_le _, rfl, rfl, by omega, Lib.hid rfl⟩
  case round =>
    obtain ⟨k, tot, hk, rfl, rfl, ht, HT⟩ := hrel
    by_cases hlt : k < N
    · have hkl : k < ls.length := by rw [HN.out]; exact hlt
      obtain ⟨Ak, ck, hc, hs⟩ := HF.out w (Below.refl _ _) k hkl
      have HT2 : Hid (tot + ls[k].length = (ls.take (k + 1)).flatten.length) := Lib.hid (by rw [flat_take hkl, List.length_append, ← HT.out])
      have ht2 : tot + ls[k].length ≤ 100000 := by rw [HT2.out]; exact Nat.le_trans (flat_le _) HM.out
      obtain ⟨nk, hnk⟩ : ∃ nk, nk = ls[k].length := ⟨_, rfl⟩
      rw [← hnk] at hc HT2 ht2
      have hki : (k : Int) < (N : Int) := by omega
      clear hnk hs hkl
      go_wp2_with fail
      go_round
      case rel => exact ⟨k + 1, tot + nk, by omega, by go_num, by go_num, ht2, HT2⟩
      case measure => simp [intOf]; omega
    · obtain rfl : k = N := by omega
      have HTT : Hid (tot = R.length) := Lib.hid (by rw [HT.out, HR.out, ← HN.out, List.take_length])
      clear HT
      have HG := Lib.hid (grow_any tot w (by omega))
      go_wp2_with fail
      refine HG.out.mono ?_
      rintro e w1 ⟨A1, c1, rfl, hown1, hb1⟩
      go_wp2_with fail
      go_loopw [6, 27] (fun v i wr => ∃ (j la : Nat) (acc : List UInt8), j ≤ k ∧ i = .int .i64 j ∧ (∃ A2 c2, v = .slice A2 la c2 ∧ Own wr w.heap.size 5 (.slice A2 la c2) (bvs acc)) ∧ Hid (acc.length = la) ∧ la ≤ 100000 ∧ Hid (acc = (ls.take j).flatten) ∧ Below w.heap.size w wr) (fun _ i _ => k - (intOf i).toNat)
      case atStart => exact ⟨0, 0, [], Nat.zero_le _, rfl, ⟨A1, c1, rfl, hown1⟩, Lib.hid rfl, by omega, Lib.hid rfl, hb1⟩
      case round =>
        obtain ⟨j, la, acc, hj, rfl, ⟨A2, c2, rfl, hown⟩, HLA, hla, HACC, hbr⟩ := hrel
        by_cases hlt2 : j < k
        · have hkl : j < ls.length := by rw [HN.out]; exact hlt2
          obtain ⟨Ak, ck, hc, hs⟩ := HF.out wr hbr j hkl
          have HA2 : Hid (acc ++ ls[j] = (ls.take (j + 1)).flatten) := Lib.hid (by rw [flat_take hkl, ← HACC.out])
          have ht2 : la + ls[j].length ≤ 100000 := by rw [← HLA.out, ← List.length_append, HA2.out]; exact Nat.le_trans (flat_le _) HM.out
          obtain ⟨lk, hlk⟩ : ∃ lk, lk = ls[j] := ⟨_, rfl⟩
          rw [← hlk] at hc HA2 ht2 hs
          obtain ⟨nk, hnk⟩ : ∃ nk, nk = lk.length := ⟨_, rfl⟩
          rw [← hnk] at hc ht2
          have HNK := Lib.hid hnk
          have hki : (j : Int) < (k : Int) := by omega
          clear hnk hlk hkl
          go_wp2_with (first
            | (at_builtin
               refine wpList_app _ rfl (.tmp 31) (.tmp 32) _ rfl w.heap.size 5 i0 _ 1 Try.underlying30 hi hz0 hz1 hz2 rfl (.slice A2 la c2) (bvs acc) la rfl (by rw [bvs_length, HLA.out]) hown wr.heap.size Ak ck (bvs lk) nk rfl (by rw [bvs_length, HNK.out]) hs (bvs_one _) (by simp [maxLen]; omega) (by omega) hbr.size ?_
               intro A3 c3 w3 hown3 hb3 hg3 hat3
               rw [← bvs_append] at hown3
               have hbr3 := hbr.trans hb3
               clear hg3 hat3 hb3 hown hbr)
            | fail)
          go_roundw
          case rel => exact ⟨j + 1, la + nk, acc ++ lk, by omega, by go_num, ⟨A3, c3, rfl, hown3⟩, Lib.hid (by rw [List.length_append, HLA.out, HNK.out]), ht2, HA2, hbr3⟩
          case measure => simp [intOf]; omega
        · obtain rfl : j = k := by omega
          have HA2 : Hid (acc = R) := Lib.hid (by rw [HACC.out, HR.out, ← HN.out, List.take_length])
          go_wp2_with fail
          go_ret
          rw [HA2.out] at hown
          have hl : R.length = la := by rw [← HA2.out]; exact HLA.out
          rw [← hl] at hown
          exact ⟨A2, c2, by rw [hl]; rfl, hown, hbr⟩
end Go.Proofs.Yticdpfjajkfheaa
