/- One list that rises: where a number stands, by halving; what is above it; the document's After and Drop. -/
import Derived.Test.YtglhgdkghddcaaaIdsF
namespace Go.Proofs.Ytglhgdkghddcaaa
set_option linter.unusedVariables false
open Go.RowKit IdsM

/-- In a list that rises, the numbers below one stand at its start. -/
theorem place_lt {l : List Int} (h : Up l) (id : Int) (k : Nat) (hk : k < l.length) : l[k] < id ↔ k < l.countP (· < id) := by
  induction l generalizing k with
  | nil => simp at hk
  | cons x l ih =>
    have h' := List.pairwise_cons.1 h
    by_cases hx : x < id
    · rw [List.countP_cons_of_pos (by simpa using hx)]
      rcases k with _ | k
      · simpa using hx
      · have := ih h'.2 k (by simpa using hk)
        simpa using this
    · have c0 : (x :: l).countP (· < id) = 0 := by
        rw [List.countP_eq_zero]
        intro y hy
        rcases List.mem_cons.1 hy with e | e
        · subst e; simpa using hx
        · have := h'.1 y e; simp; omega
      rw [c0]
      have hm := List.getElem_mem hk
      rcases List.mem_cons.1 hm with e | e
      · rw [e]; simp; omega
      · have := h'.1 _ e; simp; omega
theorem place_has {l : List Int} (h : Up l) (id : Int) (hp : l.countP (· < id) < l.length) : id ∈ l ↔ l[l.countP (· < id)] = id := by
  constructor
  · intro hm
    obtain ⟨k, hk, he⟩ := List.mem_iff_getElem.1 hm
    have h1 := place_lt h id k hk
    have h2 := place_lt h id _ hp
    have h3 : ¬ k < l.countP (· < id) := fun hc => by have := h1.2 hc; omega
    by_cases hlt : l.countP (· < id) < k
    · have := List.pairwise_iff_getElem.1 h _ k hp hk hlt
      have : ¬ l[l.countP (· < id)] < id := fun hc => by have := h2.1 hc; omega
      omega
    · have : l.countP (· < id) = k := by omega
      simp only [this]
      exact he
  · intro he
    rw [← he]
    exact List.getElem_mem hp
theorem place_hasnt {l : List Int} (id : Int) (hp : ¬ l.countP (· < id) < l.length) : id ∉ l := by
  intro hm
  have h1 : l.countP (· < id) = l.length := by have : l.countP (· < id) ≤ l.length := List.countP_le_length; omega
  have := List.countP_eq_length.1 h1 id hm
  simp at this
/-- What is above a number. -/
def above (l : List Int) (id : Int) : List Int := l.filter (fun x => decide (id < x))
theorem above_eq {l : List Int} (h : Up l) (id : Int) : above l id = l.drop (l.countP (· < id) + (if id ∈ l then 1 else 0)) := by
  unfold above
  have hs := (split_at id h).2
  by_cases hm : id ∈ l
  · have hp : l.countP (· < id) < l.length := by
      by_cases hp : l.countP (· < id) < l.length
      · exact hp
      · exact absurd hm (place_hasnt id hp)
    have he := (place_has h id hp).1 hm
    rw [if_pos hm]
    have hd : l.drop (l.countP (· < id)) = id :: l.drop (l.countP (· < id) + 1) := by
      rw [List.drop_eq_getElem_cons hp, he]
    have hup : Up (id :: l.drop (l.countP (· < id) + 1)) := by rw [← hd]; exact h.sublist (List.drop_sublist _ _)
    have h1 := (List.pairwise_cons.1 hup).1
    have hsplit : l = l.take (l.countP (· < id)) ++ (id :: l.drop (l.countP (· < id) + 1)) := by rw [← hd, List.take_append_drop]
    have ht := (split_at id h).1
    calc l.filter (fun x => decide (id < x)) = (l.take (l.countP (· < id)) ++ (id :: l.drop (l.countP (· < id) + 1))).filter (fun x => decide (id < x)) := by rw [← hsplit]
      _ = l.drop (l.countP (· < id) + 1) := by
        rw [List.filter_append, ht, List.filter_filter, List.filter_cons_of_neg (by simp)]
        rw [show l.filter (fun a => decide (id < a) && decide (a < id)) = [] from by
          rw [List.filter_eq_nil_iff]; intro y _; simp; omega]
        rw [List.nil_append, List.filter_eq_self]
        intro y hy
        simpa using h1 y hy
  · rw [if_neg hm, Nat.add_zero, hs]
    apply List.filter_congr
    intro y hy
    have : y ≠ id := fun he => hm (he ▸ hy)
    by_cases h2 : id < y
    · simp [h2]; omega
    · simp [h2]; omega
theorem above_len (l : List Int) (id : Int) : (above l id).length ≤ l.length := List.length_filter_le _ _
/-- The document's Put and Drop are the program's. -/
theorem put_ref {l : List Int} (h : Rise l) (id : Int) : put l id = refPut l id := by
  unfold put
  by_cases hid : 1 ≤ id ∧ id < 1073741824
  · rw [if_pos hid]
    refine up_ext (up_mrg _ l [id] h.1 (up_one id)) (rise_refPut h).1 (fun z => ?_)
    rw [mem_either h.1 (up_one id), mem_refPut h]
    simp [hid]
  · rw [if_neg hid]
    unfold refPut
    rw [if_pos (by omega)]
/-- A list without a number. -/
def without (l : List Int) (id : Int) : List Int := l.filter (fun x => !decide (x ∈ [id]))
theorem drop_ref {l : List Int} (h : Rise l) (id : Int) : drop l id = without l id := by
  unfold drop without
  refine up_ext (up_mrg _ l [id] h.1 (up_one id)) (h.1.filter _) (fun z => ?_)
  rw [mem_minus h.1 (up_one id), List.mem_filter]
  simp

theorem int_nan (x : Int) (w : World) : Calls Try.prog 71 #[.int .i64 x] w fun e w' => e = .returned (.bool false) ∧ w = w' := by
  go_enter Try.func71, Try.ntmps71
  go_wp2
  go_ret
  exact ⟨by simp, rfl⟩
theorem int_nan2 (x : Int) (w : World) : Calls Try.prog 77 #[.int .i64 x] w fun e w' => e = .returned (.bool false) ∧ w = w' := by
  go_enter Try.func77, Try.ntmps77
  go_wp2
  go_ret
  exact ⟨by simp, rfl⟩
theorem int_less (x y : Int) (w : World) : Calls Try.prog 76 #[.int .i64 x, .int .i64 y] w fun e w' => e = .returned (.bool (decide (x < y))) ∧ w = w' := by
  go_enter Try.func76, Try.ntmps76
  go_wp2_with fail
  refine (int_nan _ _).mono ?_
  rintro e wx ⟨rfl, rfl⟩
  go_wp2
  go_ret
  exact ⟨by simp, rfl⟩

set_option maxHeartbeats 1600000 in
theorem half_any (A : Option Addr) (n c : Nat) (l : List Int) (id : Int) (w : World) (hn : l.length = n) (hs : Sees w w.heap.size A (ivs l)) (hsz : n ≤ 65536) (hup : Up l) :
    Calls Try.prog 69 #[.slice A n c, .int .i64 id] w fun e w' => e = .returned (.tuple #[.int .i64 (l.countP (· < id) : Nat), .bool (decide (id ∈ l))]) ∧ w = w' := by
  subst hn
  obtain ⟨p, hp⟩ : ∃ p, p = l.countP (· < id) := ⟨_, rfl⟩
  have hpl : p ≤ l.length := by rw [hp]; exact List.countP_le_length
  rw [← hp]
  have HP := Lib.hid hp
  have HU := Lib.hid hup
  clear hp hup
  go_enter Try.func69, Try.ntmps69
  go_wp2
  go_loop [7, 8] (fun i j => ∃ x y : Nat, x ≤ p ∧ p ≤ y ∧ y ≤ l.length ∧ i = .int .i64 x ∧ j = .int .i64 y) (fun i j => (intOf j).toNat - (intOf i).toNat)
  case atStart => exact ⟨0, l.length, Nat.zero_le _, hpl, Nat.le_refl _, rfl, rfl⟩
  case round =>
    obtain ⟨x, y, h1, h2, h3, rfl, rfl⟩ := hrel
    by_cases hlt : x < y
    · obtain ⟨m, hm⟩ : ∃ m : Nat, m = (x + y) / 2 := ⟨_, rfl⟩
      have hm1 : x ≤ m := by omega
      have hm2 : m < y := by omega
      have hmm : ((x : Int) + (y : Int)) / 2 = (m : Int) := by omega
      have hml : m < l.length := by omega
      clear hm
      obtain ⟨b, o, rfl, hb, hc⟩ := hs.int m hml
      have hpm := place_lt HU.out id m hml
      rw [← HP.out] at hpm
      obtain ⟨z, hz⟩ : ∃ z, z = l[m] := ⟨_, rfl⟩
      rw [← hz] at hc hpm
      clear hz
      by_cases hzi : z < id
      · have hmp : m < p := hpm.1 hzi
        have hd : decide (z < id) = true := decide_eq_true hzi
        have HZ := Lib.hid hzi
        clear hpm hzi
        go_wp2_with fail
        refine (int_less _ _ _).mono ?_
        rintro e wx ⟨rfl, rfl⟩
        rw [hd]
        go_wp2
        go_round
        case rel => exact ⟨m + 1, y, by omega, h2, h3, by go_num, rfl⟩
        case measure => simp [intOf]; omega
      · have hmp : p ≤ m := by
          by_cases h : m < p
          · exact absurd (hpm.2 h) hzi
          · omega
        have hd : decide (z < id) = false := decide_eq_false hzi
        have HZ := Lib.hid hzi
        clear hpm hzi
        go_wp2_with fail
        refine (int_less _ _ _).mono ?_
        rintro e wx ⟨rfl, rfl⟩
        rw [hd]
        go_wp2
        go_round
        case rel => exact ⟨x, m, h1, hmp, by omega, rfl, by go_num⟩
        case measure => simp [intOf]; omega
    · obtain rfl : x = p := by omega
      by_cases hin : x < l.length
      · obtain ⟨b, o, rfl, hb, hc⟩ := hs.int x hin
        have hph : id ∈ l ↔ l[x] = id := by
          have h := place_has HU.out id (by rw [← HP.out]; exact hin)
          simp only [← HP.out] at h
          exact h
        obtain ⟨z, hz⟩ : ∃ z, z = l[x] := ⟨_, rfl⟩
        rw [← hz] at hc hph
        clear hz
        by_cases hzi : z = id
        · subst hzi
          have hd : decide (z ∈ l) = true := decide_eq_true (hph.2 rfl)
          clear hph
          go_wp2_with fail
          go_ret2
          exact ⟨by first | rfl | (rw [hd]; rfl) | simp [hd], rfl⟩
        · have hd : decide (id ∈ l) = false := decide_eq_false (fun h => hzi (hph.1 h))
          have he : (z == id) = false := by simpa using hzi
          clear hph hzi
          go_wp2_with fail
          refine (int_nan2 _ _).mono ?_
          rintro e wx ⟨rfl, rfl⟩
          go_wp2
          go_ret2
          exact ⟨by first | rfl | (rw [hd]; rfl) | simp [hd], rfl⟩
      · have hd : decide (id ∈ l) = false := decide_eq_false (place_hasnt id (by rw [← HP.out]; exact hin))
        go_wp2_with fail
        go_ret2
        exact ⟨by first | rfl | (rw [hd]; rfl) | simp [hd], rfl⟩

theorem has_any (A : Option Addr) (n c : Nat) (l : List Int) (id : Int) (w : World) (hn : l.length = n) (hs : Sees w w.heap.size A (ivs l)) (hsz : n ≤ 65536) (hup : Up l) :
    Calls Try.prog 52 #[.slice A n c, .int .i64 id] w fun e w' => e = .returned (.bool (decide (id ∈ l))) ∧ w = w' := by
  have HC := Lib.hid (half_any A n c l id w hn hs hsz hup)
  clear hn hs hup
  go_enter Try.func52, Try.ntmps52
  go_wp2_with fail
  refine HC.out.mono ?_
  rintro e wx ⟨rfl, rfl⟩
  go_wp2
  go_ret
  exact ⟨rfl, rfl⟩

theorem ref_drop (A : Option Addr) (n c : Nat) (l : List Int) (id : Int) (w : World) (hn : l.length = n) (hs : Sees w w.heap.size A (ivs l)) (hsz : n ≤ 65000) :
    Calls Try.prog 48 #[.slice A n c, .int .i64 id] w (GivesInts w (without l id)) := by
  have HC := Lib.hid (show Calls Try.prog 68 #[.slice A n c, .slice (some ⟨w.heap.size, 0, none⟩) 1 1] (w.alloc (.cells #[.int .i64 id] 3)) (GivesInts (w.alloc (.cells #[.int .i64 id] 3)) (without l id)) from ref_minus A n c l (some ⟨w.heap.size, 0, none⟩) 1 1 [id] (w.alloc (.cells #[.int .i64 id] 3)) hn ((hs.alloc (Nat.le_refl _) _).more (by simp)) rfl (by simpa using sees_one w id) (by omega) (by omega))
  clear hn hs
  go_enter Try.func48, Try.ntmps48
  go_wp2_with fail
  refine HC.out.mono ?_
  rintro e w' ⟨A', c', rfl, hown, hb⟩
  go_wp2
  go_ret
  refine ⟨A', c', rfl, ?_, ((Below.refl _ _).alloc (Nat.le_refl _) _).trans (hb.mono (by simp))⟩
  exact hown.lower (by simp)

set_option maxHeartbeats 1600000 in
theorem check_any (A : Option Addr) (n c : Nat) (l : List Int) (w : World) (hn : l.length = n) (hs : Sees w w.heap.size A (ivs l)) (hm : n ≤ 65536) :
    Calls Try.prog 31 #[.slice A n c] w fun e w' => e = .returned (.bool (decide (Rise l))) ∧ w = w' := by
  subst hn
  go_enter Try.func31, Try.ntmps31
  go_wp2
  go_loop [7] (fun i => ∃ k : Nat, k ≤ l.length ∧ i = .int .i64 k ∧ Rise (l.take k)) (fun i => l.length - (intOf i).toNat)
  case atStart => exact ⟨0, Nat.zero_le _, rfl, Rise.nil_⟩
  case round =>
    obtain ⟨k, hk, rfl, hr⟩ := hrel
    have HR := Lib.hid hr
    clear hr
    by_cases hlt : k < l.length
    · obtain ⟨b, o, rfl, hb, hc⟩ := hs.int k hlt
      obtain ⟨x, hx⟩ : ∃ x, x = l[k] := ⟨_, rfl⟩
      rw [← hx] at hc
      have HX := Lib.hid hx
      clear hx
      by_cases h1 : 1 ≤ x ∧ x < 1073741824
      · have d1 := decide_eq_true h1
        have H1 := Lib.hid h1
        clear h1
        by_cases h3 : k = 0
        · have d3 : decide ((0 : Int) < (k : Int)) = false := by simp; omega
          have d3' : decide (0 < k) = false := by simp; omega
          have HK := Lib.hid h3
          clear h3
          go_wp2_with fail
          refine (may_any _ _).mono ?_
          rintro e wx ⟨rfl, rfl⟩
          rw [d1]
          go_wp2
          go_round
          case rel =>
            refine ⟨k + 1, by omega, by go_num, ?_⟩
            have h3 := HK.out
            subst h3
            exact rise_next0 hlt (by rw [← HX.out]; exact H1.out)
          case measure => simp [intOf]; omega
        · obtain ⟨m, rfl⟩ : ∃ m, k = m + 1 := ⟨k - 1, by omega⟩
          obtain ⟨b', o', e', hb', hc'⟩ := hs.int m (by omega)
          injection e' with e'
          injection e' with e1 e2
          subst e1 e2
          obtain ⟨y, hy⟩ : ∃ y, y = l[m] := ⟨_, rfl⟩
          rw [← hy] at hc'
          have HY := Lib.hid hy
          clear hy
          by_cases h4 : x ≤ y
          · have d4 : decide (x ≤ y) = true := by simpa using h4
            go_wp2_with fail
            refine (may_any _ _).mono ?_
            rintro e wx ⟨rfl, rfl⟩
            rw [d1]
            go_wp2
            go_ret
            exact ⟨by simp [rise_no_order m hlt (by rw [← HX.out, ← HY.out]; omega)], rfl⟩
          · have d4 : decide (x ≤ y) = false := by simp; omega
            go_wp2_with fail
            refine (may_any _ _).mono ?_
            rintro e wx ⟨rfl, rfl⟩
            rw [d1]
            go_wp2
            go_round
            case rel => exact ⟨m + 2, by omega, by go_num, rise_next m hlt HR.out (by rw [← HX.out]; exact H1.out) (by rw [← HX.out, ← HY.out]; omega)⟩
            case measure => simp [intOf]; omega
      · have d1 := decide_eq_false h1
        have H1 := Lib.hid h1
        clear h1
        go_wp2_with fail
        refine (may_any _ _).mono ?_
        rintro e wx ⟨rfl, rfl⟩
        rw [d1]
        go_wp2
        go_ret
        exact ⟨by simp [rise_no_range k hlt (by rw [← HX.out]; exact H1.out)], rfl⟩
    · obtain rfl : k = l.length := by omega
      have hr := HR.out
      rw [List.take_length] at hr
      have HR2 := Lib.hid hr
      clear hr
      go_wp2
      go_ret
      exact ⟨by simp [HR2.out], rfl⟩
end Go.Proofs.Ytglhgdkghddcaaa
