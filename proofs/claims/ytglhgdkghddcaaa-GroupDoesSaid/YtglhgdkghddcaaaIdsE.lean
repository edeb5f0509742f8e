/- The document's own Both, Minus, Put, Either of lists that rise: what each returns. -/
import Derived.Test.YtglhgdkghddcaaaIdsD
namespace Go.Proofs.Ytglhgdkghddcaaa
set_option linter.unusedVariables false
open Go.RowKit IdsM

theorem Sees.on {w w' : World} {A : Option Addr} {xs : List Value} (h : Sees w w.heap.size A xs) (hb : Below w.heap.size w w') : Sees w' w'.heap.size A xs := (h.below hb).more hb.size
theorem below_on {w w1 w2 : World} (h : Below w.heap.size w w1) (h2 : Below w1.heap.size w1 w2) : Below w.heap.size w w2 := h.trans (h2.mono h.size)
theorem filter_take (l : List Int) (p : Int → Bool) (k : Nat) (h : k < l.length) : (l.take (k + 1)).filter p = (l.take k).filter p ++ (if p l[k] then [l[k]] else []) := by
  rw [List.take_succ_eq_append_getElem h, List.filter_append]
  by_cases hp : p l[k] = true <;> simp [hp]

theorem ref_place (A : Option Addr) (n c : Nat) (l : List Int) (id : Int) (w : World) (B : Nat) (hn : l.length = n) (hs : Sees w B A (ivs l)) (hm : n ≤ 65536) :
    Calls Try.prog 66 #[.slice A n c, .int .i64 id] w fun e w' => e = .returned (.int .i64 (l.countP (· < id) : Nat)) ∧ w = w' := by
  subst hn
  go_enter Try.func66, Try.ntmps66
  go_wp2
  go_loop [5, 6] (fun r i => ∃ k : Nat, k ≤ l.length ∧ i = .int .i64 k ∧ r = .int .i64 ((l.take k).countP (· < id) : Nat)) (fun _ i => l.length - (intOf i).toNat)
  case atStart => exact ⟨0, Nat.zero_le _, rfl, by simp⟩
  case round =>
    obtain ⟨k, hk, rfl, rfl⟩ := hrel
    have hcp : (l.take k).countP (· < id) ≤ k := Nat.le_trans List.countP_le_length (by simp; omega)
    by_cases hlt : k < l.length
    · obtain ⟨b, o, rfl, hb, hc⟩ := hs.int k hlt
      have hstep : (l.take (k + 1)).countP (· < id) = (l.take k).countP (· < id) + (if l[k] < id then 1 else 0) := by
        rw [List.take_succ_eq_append_getElem hlt, List.countP_append, List.countP_singleton]
        by_cases h : l[k] < id <;> simp [h]
      obtain ⟨x, hx⟩ : ∃ x, x = l[k] := ⟨_, rfl⟩
      rw [← hx] at hc hstep
      obtain ⟨r, hr⟩ : ∃ r, r = (l.take k).countP (· < id) := ⟨_, rfl⟩
      rw [← hr] at hstep hcp ⊢
      have HS := Lib.hid hstep
      have HR := Lib.hid hr
      clear hstep hr hx
      by_cases h : x < id
      · go_wp2
        go_round
        case rel => exact ⟨k + 1, by omega, by go_num, by rw [HS.out, if_pos h]; go_num⟩
        case measure => simp [intOf]; omega
      · have h' : id ≤ x := by omega
        go_wp2
        go_round
        case rel => exact ⟨k + 1, by omega, by go_num, by rw [HS.out, if_neg h]; go_num⟩
        case measure => simp [intOf]; omega
    · obtain rfl : k = l.length := by omega
      rw [List.take_length]
      go_wp2
      go_ret
      exact ⟨rfl, rfl⟩

set_option maxHeartbeats 1600000 in
theorem ref_minus (A : Option Addr) (n c : Nat) (a : List Int) (B : Option Addr) (m d : Nat) (b : List Int) (w : World) (hn : a.length = n) (hs : Sees w w.heap.size A (ivs a)) (hm : b.length = m) (ht : Sees w w.heap.size B (ivs b)) (hsz : n ≤ 65536) (hsz' : m ≤ 65536) :
    Calls Try.prog 68 #[.slice A n c, .slice B m d] w (GivesInts w (a.filter (fun x => !decide (x ∈ b)))) := by
  obtain ⟨i0, hi, hz0, hz1, hz2⟩ := info_parts int_info
  subst hn
  have HM := Lib.hid hm
  clear hm
  go_enter Try.func68, Try.ntmps68
  go_wp2
  go_loopw [5, 6] (fun v i wr => ∃ k : Nat, k ≤ a.length ∧ i = .int .i64 k ∧ (∃ A1 c1, v = .slice A1 ((a.take k).filter (fun x => !decide (x ∈ b))).length c1 ∧ Own wr w.heap.size 3 v (ivs ((a.take k).filter (fun x => !decide (x ∈ b))))) ∧ Below w.heap.size w wr) (fun _ i _ => a.length - (intOf i).toNat)
  case atStart => exact ⟨0, Nat.zero_le _, rfl, ⟨some ⟨w.heap.size, 0, none⟩, 0, rfl, own_lit w w.heap.size 3 #[] (Nat.le_refl _) (by simp [maxLen])⟩, (Below.refl _ _).alloc (Nat.le_refl _) _⟩
  case round =>
    obtain ⟨k, hk, rfl, ⟨A1, c1, rfl, hown⟩, hbr⟩ := hrel
    obtain ⟨acc, hacc⟩ : ∃ acc, acc = (a.take k).filter (fun x => !decide (x ∈ b)) := ⟨_, rfl⟩
    have hal : acc.length ≤ k := by rw [hacc]; exact Nat.le_trans (List.length_filter_le _ _) (by simp; omega)
    rw [← hacc] at hown ⊢
    by_cases hlt : k < a.length
    · have hstep := filter_take a (fun x => !decide (x ∈ b)) k hlt
      rw [← hacc] at hstep
      have HST := Lib.hid hstep
      clear hstep hacc
      obtain ⟨ba, o, rfl, hb, hc⟩ := (hs.below hbr).int k hlt
      obtain ⟨x, hx⟩ : ∃ x, x = a[k] := ⟨_, rfl⟩
      rw [← hx] at hc
      have HX := Lib.hid hx
      clear hx
      obtain ⟨la, hla⟩ : ∃ la, la = acc.length := ⟨_, rfl⟩
      rw [← hla] at hown hal ⊢
      have HLA := Lib.hid hla
      clear hla
      go_wp2_with fail
      refine (ref_has _ _ _ b x _ _ HM.out (ht.below hbr) (by omega)).mono ?_
      rintro e wx ⟨rfl, rfl⟩
      by_cases hin : x ∈ b
      · rw [decide_eq_true hin]
        have HIN := Lib.hid hin
        clear hin
        go_wp2
        go_roundw
        case rel =>
          refine ⟨k + 1, by omega, by go_num, ⟨A1, c1, ?_, ?_⟩, hbr⟩
          · rw [HST.out, ← HX.out]; simp [HIN.out, HLA.out]
          · rw [HST.out, ← HX.out]; simpa [HIN.out] using hown
        case measure => simp [intOf]; omega
      · rw [decide_eq_false hin]
        have HIN := Lib.hid hin
        clear hin
        go_wp2_with (first
          | (at_builtin
             refine wpList_app _ rfl (.tmp 21) (.tmp 26) _ rfl w.heap.size 3 i0 _ 8 Try.underlying32 hi hz0 hz1 hz2 rfl (.slice A1 la c1) (ivs acc) la rfl (by rw [ivs_length, HLA.out]) (hown.alloc _) (wr.heap.size + 1) (some ⟨wr.heap.size, 0, none⟩) 1 (ivs [x]) 1 rfl rfl (sees_lit wr _ 3 (0, 0) _ rfl) (ivs_one _) (by simp [maxLen]; omega) (by omega) (by have := hbr.size; simp; omega) ?_
             intro A8 c8 w8 hown8 hb8 hg8 hat8)
          | fail)
        rw [← ivs_append] at hown8
        have hbr8 : Below w.heap.size w w8 := (hbr.alloc hbr.size _).trans hb8
        go_roundw
        case rel =>
          refine ⟨k + 1, by omega, by go_num, ⟨A8, c8, ?_, ?_⟩, hbr8⟩
          · rw [HST.out, ← HX.out]; simp [HIN.out, HLA.out]
          · rw [HST.out, ← HX.out]; simpa [HIN.out] using hown8
        case measure => simp [intOf]; omega
    · obtain rfl : k = a.length := by omega
      rw [List.take_length] at hacc
      have HACC := Lib.hid hacc
      clear hacc
      go_wp2
      go_ret
      rw [← HACC.out]
      exact ⟨A1, c1, rfl, hown, hbr⟩
end Go.Proofs.Ytglhgdkghddcaaa
