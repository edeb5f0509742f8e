/- One list that rises: where a number stands, by halving; what is above it; the document's After and Drop. -/
import Derived.Test.YtgnkkbgphghioaaIdsF
namespace Go.Proofs.Ytgnkkbgphghioaa
set_option linter.unusedVariables false
open Go.RowKit IdsM

/-- In a list that rises, the numbers below one stand at its start. -/
theorem place_lt {l : List Int} (h : Up l) (id : Int) (k : Nat) (hk : k < l.length) : l[k] < id ↔ k < l.countP (· < id) := by
  induction l generalizing k with
  | nil => simp at hk
  | cons x l ih =>
    have h' := List.pairwise_cons.1 h
    by_cases hx : x < id
    · rw [List.countP_cons_of_pos (by simpa using hx)]
      rcases k with _ | k
      · simpa using hx
      · have := ih h'.2 k (by simpa using hk)
        simpa using this
    · have c0 : (x :: l).countP (· < id) = 0 := by
        rw [List.countP_eq_zero]
        intro y hy
        rcases List.mem_cons.1 hy with e | e
        · subst e; simpa using hx
        · have := h'.1 y e; simp; omega
      rw [c0]
      have hm := List.getElem_mem hk
      rcases List.mem_cons.1 hm with e | e
      · rw [e]; simp; omega
      · have := h'.1 _ e; simp; omega
theorem place_has {l : List Int} (h : Up l) (id : Int) (hp : l.countP (· < id) < l.length) : id ∈ l ↔ l[l.countP (· < id)] = id := by
  constructor
  · intro hm
    obtain ⟨k, hk, he⟩ := List.mem_iff_getElem.1 hm
    have h1 := place_lt h id k hk
    have h2 := place_lt h id _ hp
    have h3 : ¬ k < l.countP (· < id) := fun hc => by have := h1.2 hc; omega
    by_cases hlt : l.countP (· < id) < k
    · have := List.pairwise_iff_getElem.1 h _ k hp hk hlt
      have : ¬ l[l.countP (· < id)] < id := fun hc => by have := h2.1 hc; omega
      omega
    · have : l.countP (· < id) = k := by omega
      simp only [this]
      exact he
  · intro he
    rw [← he]
    exact List.getElem_mem hp
theorem place_hasnt {l : List Int} (id : Int) (hp : ¬ l.countP (· < id) < l.length) : id ∉ l := by
  intro hm
  have h1 : l.countP (· < id) = l.length := by have : l.countP (· < id) ≤ l.length := List.countP_le_length; omega
  have := List.countP_eq_length.1 h1 id hm
  simp at this
/-- What is above a number. -/
def above (l : List Int) (id : Int) : List Int := l.filter (fun x => decide (id < x))
theorem above_eq {l : List Int} (h : Up l) (id : Int) : above l id = l.drop (l.countP (· < id) + (if id ∈ l then 1 else 0)) := by
  unfold above
  have hs := (split_at id h).2
  by_cases hm : id ∈ l
  · have hp : l.countP (· < id) < l.length := by
      by_cases hp : l.countP (· < id) < l.length
      · exact hp
      · exact absurd hm (place_hasnt id hp)
    have he := (place_has h id hp).1 hm
    rw [if_pos hm]
    have hd : l.drop (l.countP (· < id)) = id :: l.drop (l.countP (· < id) + 1) := by
      rw [List.drop_eq_getElem_cons hp, he]
    have hup : Up (id :: l.drop (l.countP (· < id) + 1)) := by rw [← hd]; exact h.sublist (List.drop_sublist _ _)
    have h1 := (List.pairwise_cons.1 hup).1
    have hsplit : l = l.take (l.countP (· < id)) ++ (id :: l.drop (l.countP (· < id) + 1)) := by rw [← hd, List.take_append_drop]
    have ht := (split_at id h).1
    calc l.filter (fun x => decide (id < x)) = (l.take (l.countP (· < id)) ++ (id :: l.drop (l.countP (· < id) + 1))).filter (fun x => decide (id < x)) := by rw [← hsplit]
      _ = l.drop (l.countP (· < id) + 1) := by
        rw [List.filter_append, ht, List.filter_filter, List.filter_cons_of_neg (by simp)]
        rw [show l.filter (fun a => decide (id < a) && decide (a < id)) = [] from by
          rw [List.filter_eq_nil_iff]; intro y _; simp; omega]
        rw [List.nil_append, List.filter_eq_self]
        intro y hy
        simpa using h1 y hy
  · rw [if_neg hm, Nat.add_zero, hs]
    apply List.filter_congr
    intro y hy
    have : y ≠ id := fun he => hm (he ▸ hy)
    by_cases h2 : id < y
    · simp [h2]; omega
    · simp [h2]; omega
theorem above_len (l : List Int) (id : Int) : (above l id).length ≤ l.length := List.length_filter_le _ _
/-- The document's Put and Drop are the program's. -/
theorem put_ref {l : List Int} (h : Rise l) (id : Int) : put l id = refPut l id := by
  unfold put
  by_cases hid : 1 ≤ id ∧ id < 1073741824
  · rw [if_pos hid]
    refine up_ext (up_mrg _ l [id] h.1 (up_one id)) (rise_refPut h).1 (fun z => ?_)
    rw [mem_either h.1 (up_one id), mem_refPut h]
    simp [hid]
  · rw [if_neg hid]
    unfold refPut
    rw [if_pos (by omega)]
/-- A list without a number. -/
def without (l : List Int) (id : Int) : List Int := l.filter (fun x => !decide (x ∈ [id]))
theorem drop_ref {l : List Int} (h : Rise l) (id : Int) : drop l id = without l id := by
  unfold drop without
  refine up_ext (up_mrg _ l [id] h.1 (up_one id)) (h.1.filter _) (fun z => ?_)
  rw [mem_minus h.1 (up_one id), List.mem_filter]
  simp

theorem int_nan (x : Int) (w : World) : Calls Try.prog 79 #[.int .i64 x] w fun e w' => e = .returned (.bool false) ∧ w = w' := by
  go_enter Try.func79, Try.ntmps79
  go_wp2
  go_ret
  exact ⟨by simp, rfl⟩
theorem int_nan2 (x : Int) (w : World) : Calls Try.prog 78 #[.int .i64 x] w fun e w' => e = .returned (.bool false) ∧ w = w' := by
  go_enter Try.func78, Try.ntmps78
  go_wp2
  go_ret
  exact ⟨by simp, rfl⟩
theorem int_less (x y : Int) (w : World) : Calls Try.prog 77 #[.int .i64 x, .int .i64 y] w fun e w' => e = .returned (.bool (decide (x < y))) ∧ w = w' := by
  go_enter Try.func77, Try.ntmps77
  go_wp2_with fail
  refine (int_nan _ _).mono ?_
  rintro e wx ⟨rfl, rfl⟩
  go_wp2
  go_ret
  exact ⟨by simp, rfl⟩

set_option maxHeartbeats 1600000 in
theorem half_any (A : Option Addr) (n c : Nat) (l : List Int) (id : Int) (w : World) (hn : l.length = n) (hs : Sees w w.heap.size A (ivs l)) (hsz : n ≤ 65536) (hup : Up l) :
    Calls Try.prog 70 #[.slice A n c, .int .i64 id] w fun e w' => e = .returned (.tuple #[.int .i64 (l.countP (· < id) : Nat), .bool (decide (id ∈ l))]) ∧ w = w' := by
  subst hn
  obtain ⟨p, hp⟩ : ∃ p, p = l.countP (· < id) := ⟨_, rfl⟩
  have hpl : p ≤ l.length := by rw [hp]; exact List.countP_le_length
  rw [← hp]
  have HP := Lib.hid hp
  have HU := Lib.hid hup
  clear hp hup
  go_enter Try.func70, Try.ntmps70
  go_wp2
  go_loop [7, 8] (fun i j => ∃ x y : Nat, x ≤ p ∧ p ≤ y ∧ y ≤ l.length ∧ i = .int .i64 x ∧ j = .int .i64 y) (fun i j => (intOf j).toNat - (intOf i).toNat)
  case atStart => exact ⟨0, l.length, Nat.zero_le _, hpl, Nat.le_refl _, rfl, rfl⟩
  case round =>
    obtain ⟨x, y, h1, h2, h3, rfl, rfl⟩ := hrel
    by_cases hlt : x < y
    · obtain ⟨m, hm⟩ : ∃ m : Nat, m = (x + y) / 2 := ⟨_, rfl⟩
      have hm1 : x ≤ m := by omega
      have hm2 : m < y := by omega
      have hmm : ((x : Int) + (y : Int)) / 2 = (m : Int) := by omega
      have hml : m < l.length := by omega
      clear hm
      obtain ⟨b, o, rfl, hb, hc⟩ := hs.int m hml
      have hpm := place_lt HU.out id m hml
      rw [← HP.out] at hpm
      obtain ⟨z, hz⟩ : ∃ z, z = l[m] := ⟨_, rfl⟩
      rw [← hz] at hc hpm
      clear hz
      by_cases hzi : z < id
      · have hmp : m < p := hpm.1 hzi
        have hd : decide (z < id) = true := decide_eq_true hzi
        have HZ := Lib.hid hzi
        clear hpm hzi
        go_wp2_with fail
        refine (int_less _ _ _).mono ?_
        rintro e wx ⟨rfl, rfl⟩
        rw [hd]
        go_wp2
        go_round
        case rel => exact ⟨m + 1, y, by omega, h2, h3, by go_num, rfl⟩
        case measure => simp [intOf]; omega
      · have hmp : p ≤ m := by
          by_cases h : m < p
          · exact absurd (hpm.2 h) hzi
          · omega
        have hd : decide (z < id) = false := decide_eq_false hzi
        have HZ := Lib.hid hzi
        clear hpm hzi
        go_wp2_with fail
        refine (int_less _ _ _).mono ?_
        rintro e wx ⟨rfl, rfl⟩
        rw [hd]
        go_wp2
        go_round
        case rel => exact ⟨x, m, h1, hmp, by omega, rfl, by go_num⟩
        case measure => simp [intOf]; omega
    · obtain rfl : x = p := by omega
      by_cases hin : x < l.length
      · obtain ⟨b, o, rfl, hb, hc⟩ := hs.int x hin
        have hph : id ∈ l ↔ l[x] = id := by
          have h := place_has HU.out id (by rw [← HP.out]; exact hin)
          simp only [← HP.out] at h
          exact h
        obtain ⟨z, hz⟩ : ∃ z, z = l[x] := ⟨_, rfl⟩
        rw [← hz] at hc hph
        clear hz
        by_cases hzi : z = id
        · subst hzi
          have hd : decide (z ∈ l) = true := decide_eq_true (hph.2 rfl)
          clear hph
          go_wp2_with fail
          go_ret2
          exact ⟨by first | rfl | (rw [hd]; rfl) | simp [hd], rfl⟩
        · have hd : decide (id ∈ l) = false := decide_eq_false (fun h => hzi (hph.1 h))
          have he : (z == id) = false := by simpa using hzi
          clear hph hzi
          go_wp2_with fail
          refine (int_nan2 _ _).mono ?_
          rintro e wx ⟨rfl, rfl⟩
          go_wp2
          go_ret2
          exact ⟨by first | rfl | (rw [hd]; rfl) | simp [hd], rfl⟩
      · have hd : decide (id ∈ l) = false := decide_eq_false (place_hasnt id (by rw [← HP.out]; exact hin))
        go_wp2_with fail
        go_ret2
        exact ⟨by first | rfl | (rw [hd]; rfl) | simp [hd], rfl⟩

theorem place_any (A : Option Addr) (n c : Nat) (l : List Int) (id : Int) (w : World) (hn : l.length = n) (hs : Sees w w.heap.size A (ivs l)) (hsz : n ≤ 65536) (hup : Up l) :
    Calls Try.prog 44 #[.slice A n c, .int .i64 id] w fun e w' => e = .returned (.int .i64 (l.countP (· < id) : Nat)) ∧ w = w' := by
  have HC := Lib.hid (half_any A n c l id w hn hs hsz hup)
  clear hn hs hup
  go_enter Try.func44, Try.ntmps44
  go_wp2_with fail
  refine HC.out.mono ?_
  rintro e wx ⟨rfl, rfl⟩
  go_wp2
  go_ret
  exact ⟨rfl, rfl⟩
theorem has_any (A : Option Addr) (n c : Nat) (l : List Int) (id : Int) (w : World) (hn : l.length = n) (hs : Sees w w.heap.size A (ivs l)) (hsz : n ≤ 65536) (hup : Up l) :
    Calls Try.prog 46 #[.slice A n c, .int .i64 id] w fun e w' => e = .returned (.bool (decide (id ∈ l))) ∧ w = w' := by
  have HC := Lib.hid (half_any A n c l id w hn hs hsz hup)
  clear hn hs hup
  go_enter Try.func46, Try.ntmps46
  go_wp2_with fail
  refine HC.out.mono ?_
  rintro e wx ⟨rfl, rfl⟩
  go_wp2
  go_ret
  exact ⟨rfl, rfl⟩

set_option maxHeartbeats 1600000 in
theorem after_any (A : Option Addr) (n c : Nat) (l : List Int) (id : Int) (w : World) (hn : l.length = n) (hnc : n ≤ c) (hcm : c ≤ maxLen) (hs : Sees w w.heap.size A (ivs l)) (hsz : n ≤ 65536) (hup : Up l) :
    Calls Try.prog 49 #[.slice A n c, .int .i64 id] w (GivesInts w (above l id)) := by
  obtain ⟨i0, hi, hz0, hz1, hz2⟩ := info_parts int_info
  have HC := Lib.hid (place_any A n c l id w hn hs hsz hup)
  subst hn
  have HE := Lib.hid (above_eq hup id)
  obtain ⟨p, hp⟩ : ∃ p, p = l.countP (· < id) := ⟨_, rfl⟩
  have hpl : p ≤ l.length := by rw [hp]; exact List.countP_le_length
  rw [← hp] at HC HE
  have HP := Lib.hid hp
  have HU := Lib.hid hup
  clear hp hup
  unfold maxLen at hcm
  by_cases hin : p < l.length
  · obtain ⟨b, o, rfl, hb, hc⟩ := hs.int p hin
    have hph : id ∈ l ↔ l[p] = id := by
      have h := place_has HU.out id (by rw [← HP.out]; exact hin)
      simp only [← HP.out] at h
      exact h
    obtain ⟨z, hz⟩ : ∃ z, z = l[p] := ⟨_, rfl⟩
    rw [← hz] at hc hph
    clear hz
    by_cases hzi : z = id
    · have HE2 := Lib.hid (show above l id = l.drop (p + 1) from by rw [HE.out, if_pos (hph.2 hzi)])
      subst hzi
      clear hph HE
      obtain ⟨A2, hcut, hs2⟩ := cut_fact (P := Try.prog) 59 3 i0 Try.underlying59 hi hz1 hs l.length (l.length - (p + 1)) (p + 1) c ((p : Int) + 1) .i64 (ivs_length l) (by omega) (by omega) hnc
      rw [show (ivs l).drop (p + 1) = ivs (l.drop (p + 1)) from by simp [ivs]] at hs2
      have HL := Lib.hid (show (l.drop (p + 1)).length = l.length - (p + 1) from by simp)
      obtain ⟨q, hq⟩ : ∃ q, q = l.length - (p + 1) := ⟨_, rfl⟩
      rw [← hq] at hcut HL
      have hql : q ≤ l.length := by omega
      clear hq
      obtain ⟨cc, hcc⟩ : ∃ cc, cc = c - (p + 1) := ⟨_, rfl⟩
      rw [← hcc] at hcut
      clear hcc
      go_enter Try.func49, Try.ntmps49
      go_wp2_with fail
      refine HC.out.mono ?_
      rintro e wx ⟨rfl, rfl⟩
      go_wp2_with fail
      refine (clone_any _ _ _ (l.drop (p + 1)) _ HL.out hs2 (by omega)).mono ?_
      rintro e w' ⟨A', c', rfl, hown, hb⟩
      go_wp2
      go_ret
      rw [HE2.out]
      exact ⟨A', c', by rw [List.length_drop]; rfl, hown, hb⟩
    · have HE2 := Lib.hid (show above l id = l.drop p from by rw [HE.out, if_neg (fun h => hzi (hph.1 h)), Nat.add_zero])
      have he : (z == id) = false := by simpa using hzi
      clear hph hzi HE
      obtain ⟨A2, hcut, hs2⟩ := cut_fact (P := Try.prog) 59 3 i0 Try.underlying59 hi hz1 hs l.length (l.length - p) p c (p : Int) .i64 (ivs_length l) (by omega) (by omega) hnc
      rw [show (ivs l).drop p = ivs (l.drop p) from by simp [ivs]] at hs2
      have HL := Lib.hid (show (l.drop p).length = l.length - p from by simp)
      obtain ⟨q, hq⟩ : ∃ q, q = l.length - p := ⟨_, rfl⟩
      rw [← hq] at hcut HL
      have hql : q ≤ l.length := by omega
      clear hq
      obtain ⟨cc, hcc⟩ : ∃ cc, cc = c - p := ⟨_, rfl⟩
      rw [← hcc] at hcut
      clear hcc
      go_enter Try.func49, Try.ntmps49
      go_wp2_with fail
      refine HC.out.mono ?_
      rintro e wx ⟨rfl, rfl⟩
      go_wp2_with fail
      refine (clone_any _ _ _ (l.drop p) _ HL.out hs2 (by omega)).mono ?_
      rintro e w' ⟨A', c', rfl, hown, hb⟩
      go_wp2
      go_ret
      rw [HE2.out]
      exact ⟨A', c', by rw [List.length_drop]; rfl, hown, hb⟩
  · have HE2 := Lib.hid (show above l id = l.drop p from by rw [HE.out, if_neg (place_hasnt id (by rw [← HP.out]; exact hin)), Nat.add_zero])
    clear HE
    obtain ⟨A2, hcut, hs2⟩ := cut_fact (P := Try.prog) 59 3 i0 Try.underlying59 hi hz1 hs l.length (l.length - p) p c (p : Int) .i64 (ivs_length l) (by omega) (by omega) hnc
    rw [show (ivs l).drop p = ivs (l.drop p) from by simp [ivs]] at hs2
    have HL := Lib.hid (show (l.drop p).length = l.length - p from by simp)
    obtain ⟨q, hq⟩ : ∃ q, q = l.length - p := ⟨_, rfl⟩
    rw [← hq] at hcut HL
    have hql : q ≤ l.length := by omega
    clear hq
    obtain ⟨cc, hcc⟩ : ∃ cc, cc = c - p := ⟨_, rfl⟩
    rw [← hcc] at hcut
    clear hcc
    have hlt : (l.length : Int) ≤ (p : Int) := by omega
    go_enter Try.func49, Try.ntmps49
    go_wp2_with fail
    refine HC.out.mono ?_
    rintro e wx ⟨rfl, rfl⟩
    go_wp2_with fail
    refine (clone_any _ _ _ (l.drop p) _ HL.out hs2 (by omega)).mono ?_
    rintro e w' ⟨A', c', rfl, hown, hb⟩
    go_wp2
    go_ret
    rw [HE2.out]
    exact ⟨A', c', by rw [List.length_drop]; rfl, hown, hb⟩

set_option maxHeartbeats 1600000 in
theorem ref_after (A : Option Addr) (n c : Nat) (l : List Int) (id : Int) (w : World) (hn : l.length = n) (hs : Sees w w.heap.size A (ivs l)) (hsz : n ≤ 65536) :
    Calls Try.prog 50 #[.slice A n c, .int .i64 id] w (GivesInts w (above l id)) := by
  obtain ⟨i0, hi, hz0, hz1, hz2⟩ := info_parts int_info
  subst hn
  unfold above
  go_enter Try.func50, Try.ntmps50
  go_wp2
  go_loopw [5, 6] (fun v i wr => ∃ k : Nat, k ≤ l.length ∧ i = .int .i64 k ∧ (∃ A1 c1, v = .slice A1 ((l.take k).filter (fun x => decide (id < x))).length c1 ∧ Own wr w.heap.size 3 v (ivs ((l.take k).filter (fun x => decide (id < x))))) ∧ Below w.heap.size w wr) (fun _ i _ => l.length - (intOf i).toNat)
  case atStart => exact ⟨0, Nat.zero_le _, rfl, ⟨some ⟨w.heap.size, 0, none⟩, 0, rfl, own_lit w w.heap.size 3 #[] (Nat.le_refl _) (by simp [maxLen])⟩, (Below.refl _ _).alloc (Nat.le_refl _) _⟩
  case round =>
    obtain ⟨k, hk, rfl, ⟨A1, c1, rfl, hown⟩, hbr⟩ := hrel
    obtain ⟨acc, hacc⟩ : ∃ acc, acc = (l.take k).filter (fun x => decide (id < x)) := ⟨_, rfl⟩
    have hal : acc.length ≤ k := by rw [hacc]; exact Nat.le_trans (List.length_filter_le _ _) (by simp; omega)
    rw [← hacc] at hown ⊢
    by_cases hlt : k < l.length
    · have hstep := filter_take l (fun x => decide (id < x)) k hlt
      rw [← hacc] at hstep
      have HST := Lib.hid hstep
      clear hstep hacc
      obtain ⟨ba, o, rfl, hb, hc⟩ := (hs.below hbr).int k hlt
      obtain ⟨x, hx⟩ : ∃ x, x = l[k] := ⟨_, rfl⟩
      rw [← hx] at hc
      have HX := Lib.hid hx
      clear hx
      obtain ⟨la, hla⟩ : ∃ la, la = acc.length := ⟨_, rfl⟩
      rw [← hla] at hown hal ⊢
      have HLA := Lib.hid hla
      clear hla
      by_cases hin : id < x
      · have HIN := Lib.hid hin
        go_wp2_with (first
          | (at_builtin
             refine wpList_app _ rfl (.tmp 20) (.tmp 25) _ rfl w.heap.size 3 i0 _ 8 Try.underlying59 hi hz0 hz1 hz2 rfl (.slice A1 la c1) (ivs acc) la rfl (by rw [ivs_length, HLA.out]) (hown.alloc _) (wr.heap.size + 1) (some ⟨wr.heap.size, 0, none⟩) 1 (ivs [x]) 1 rfl rfl (sees_lit wr _ 3 (0, 0) _ rfl) (ivs_one _) (by simp [maxLen]; omega) (by omega) (by have := hbr.size; simp; omega) ?_
             intro A8 c8 w8 hown8 hb8 hg8 hat8)
          | fail)
        rw [← ivs_append] at hown8
        have hbr8 : Below w.heap.size w w8 := (hbr.alloc hbr.size _).trans hb8
        go_roundw
        case rel =>
          refine ⟨k + 1, by omega, by go_num, ⟨A8, c8, ?_, ?_⟩, hbr8⟩
          · rw [HST.out, ← HX.out]; simp [HIN.out, HLA.out]
          · rw [HST.out, ← HX.out]; simpa [HIN.out] using hown8
        case measure => simp [intOf]; omega
      · have HIN := Lib.hid hin
        have hin' : x ≤ id := by omega
        go_wp2
        go_roundw
        case rel =>
          refine ⟨k + 1, by omega, by go_num, ⟨A1, c1, ?_, ?_⟩, hbr⟩
          · rw [HST.out, ← HX.out]; simp [HIN.out, HLA.out]
          · rw [HST.out, ← HX.out]; simpa [HIN.out] using hown
        case measure => simp [intOf]; omega
    · obtain rfl : k = l.length := by omega
      rw [List.take_length] at hacc
      have HACC := Lib.hid hacc
      clear hacc
      go_wp2
      go_ret
      rw [← HACC.out]
      exact ⟨A1, c1, rfl, hown, hbr⟩

theorem ref_drop (A : Option Addr) (n c : Nat) (l : List Int) (id : Int) (w : World) (hn : l.length = n) (hs : Sees w w.heap.size A (ivs l)) (hsz : n ≤ 65000) :
    Calls Try.prog 54 #[.slice A n c, .int .i64 id] w (GivesInts w (without l id)) := by
  have HC := Lib.hid (show Calls Try.prog 58 #[.slice A n c, .slice (some ⟨w.heap.size, 0, none⟩) 1 1] (w.alloc (.cells #[.int .i64 id] 3)) (GivesInts (w.alloc (.cells #[.int .i64 id] 3)) (without l id)) from ref_minus A n c l (some ⟨w.heap.size, 0, none⟩) 1 1 [id] (w.alloc (.cells #[.int .i64 id] 3)) hn ((hs.alloc (Nat.le_refl _) _).more (by simp)) rfl (by simpa using sees_one w id) (by omega) (by omega))
  clear hn hs
  go_enter Try.func54, Try.ntmps54
  go_wp2_with fail
  refine HC.out.mono ?_
  rintro e w' ⟨A', c', rfl, hown, hb⟩
  go_wp2
  go_ret
  refine ⟨A', c', rfl, ?_, ((Below.refl _ _).alloc (Nat.le_refl _) _).trans (hb.mono (by simp))⟩
  exact hown.lower (by simp)

set_option maxHeartbeats 1600000 in
theorem check_any (A : Option Addr) (n c : Nat) (l : List Int) (w : World) (hn : l.length = n) (hs : Sees w w.heap.size A (ivs l)) (hm : n ≤ 65536) :
    Calls Try.prog 42 #[.slice A n c] w fun e w' => e = .returned (.bool (decide (Rise l))) ∧ w = w' := by
  subst hn
  go_enter Try.func42, Try.ntmps42
  go_wp2
  go_loop [7] (fun i => ∃ k : Nat, k ≤ l.length ∧ i = .int .i64 k ∧ Rise (l.take k)) (fun i => l.length - (intOf i).toNat)
  case atStart => exact ⟨0, Nat.zero_le _, rfl, Rise.nil_⟩
  case round =>
    obtain ⟨k, hk, rfl, hr⟩ := hrel
    have HR := Lib.hid hr
    clear hr
    by_cases hlt : k < l.length
    · obtain ⟨b, o, rfl, hb, hc⟩ := hs.int k hlt
      obtain ⟨x, hx⟩ : ∃ x, x = l[k] := ⟨_, rfl⟩
      rw [← hx] at hc
      have HX := Lib.hid hx
      clear hx
      by_cases h1 : 1 ≤ x ∧ x < 1073741824
      · have d1 := decide_eq_true h1
        have H1 := Lib.hid h1
        clear h1
        by_cases h3 : k = 0
        · have d3 : decide ((0 : Int) < (k : Int)) = false := by simp; omega
          have d3' : decide (0 < k) = false := by simp; omega
          have HK := Lib.hid h3
          clear h3
          go_wp2_with fail
          refine (may_any _ _).mono ?_
          rintro e wx ⟨rfl, rfl⟩
          rw [d1]
          go_wp2
          go_round
          case rel =>
            refine ⟨k + 1, by omega, by go_num, ?_⟩
            have h3 := HK.out
            subst h3
            exact rise_next0 hlt (by rw [← HX.out]; exact H1.out)
          case measure => simp [intOf]; omega
        · obtain ⟨m, rfl⟩ : ∃ m, k = m + 1 := ⟨k - 1, by omega⟩
          obtain ⟨b', o', e', hb', hc'⟩ := hs.int m (by omega)
          injection e' with e'
          injection e' with e1 e2
          subst e1 e2
          obtain ⟨y, hy⟩ : ∃ y, y = l[m] := ⟨_, rfl⟩
          rw [← hy] at hc'
          have HY := Lib.hid hy
          clear hy
          by_cases h4 : x ≤ y
          · have d4 : decide (x ≤ y) = true := by simpa using h4
            go_wp2_with fail
            refine (may_any _ _).mono ?_
            rintro e wx ⟨rfl, rfl⟩
            rw [d1]
            go_wp2
            go_ret
            exact ⟨by simp [rise_no_order m hlt (by rw [← HX.out, ← HY.out]; omega)], rfl⟩
          · have d4 : decide (x ≤ y) = false := by simp; omega
            go_wp2_with fail
            refine (may_any _ _).mono ?_
            rintro e wx ⟨rfl, rfl⟩
            rw [d1]
            go_wp2
            go_round
            case rel => exact ⟨m + 2, by omega, by go_num, rise_next m hlt HR.out (by rw [← HX.out]; exact H1.out) (by rw [← HX.out, ← HY.out]; omega)⟩
            case measure => simp [intOf]; omega
      · have d1 := decide_eq_false h1
        have H1 := Lib.hid h1
        clear h1
        go_wp2_with fail
        refine (may_any _ _).mono ?_
        rintro e wx ⟨rfl, rfl⟩
        rw [d1]
        go_wp2
        go_ret
        exact ⟨by simp [rise_no_range k hlt (by rw [← HX.out]; exact H1.out)], rfl⟩
    · obtain rfl : k = l.length := by omega
      have hr := HR.out
      rw [List.take_length] at hr
      have HR2 := Lib.hid hr
      clear hr
      go_wp2
      go_ret
      exact ⟨by simp [HR2.out], rfl⟩
end Go.Proofs.Ytgnkkbgphghioaa
