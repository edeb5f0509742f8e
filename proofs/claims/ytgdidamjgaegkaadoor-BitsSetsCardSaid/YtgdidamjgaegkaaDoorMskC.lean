/- The document's texts of numbers, sets and masks, and what a text is read as: what each returns. -/
import Derived.Test.YtgdidamjgaegkaaDoorMskB
namespace Go.Proofs.YtgdidamjgaegkaaDoor
set_option linter.unusedVariables false
open Go Go.RowKit BitM MskM

theorem dec_len : ∀ (k u : Nat), u < 10 ^ (k + 1) → (Lib.decDigits u).length ≤ k + 1
  | 0, u, h => by rw [Lib.decDigits_one (by omega)]; simp
  | k + 1, u, h => by
    by_cases h9 : u < 10
    · rw [Lib.decDigits_one h9]; simp
    · rw [Lib.decDigits, dif_neg h9, List.length_append]
      have := dec_len k (u / 10) (by rw [Nat.pow_succ] at h; omega)
      simp; omega
theorem dec_small {u : Nat} (h : u ≤ 9223372036854775808) : (Lib.decDigits u).length ≤ 19 := dec_len 18 u (by omega)
theorem digit_str (w : World) (x : Int) (m : Nat) (hm : m < 256) (hx : x = (m : Int)) :
    (convert 68 9 (.slice (some ⟨w.heap.size, 0, none⟩) 1 1)).run Tryd.prog (w.alloc (.cells #[.int .u8 x] 5)) = .ok (.string (str [UInt8.ofNat m])) (w.alloc (.cells #[.int .u8 x] 5)) :=
  run_str (P := Tryd.prog) _ (w.heap.size + 1) 68 5 9 Tryd.underlying68 Tryd.underlying5 Tryd.underlying9 _ 1 1 [UInt8.ofNat m] rfl
    (by subst hx; exact sees_lit w #[.int .u8 (m : Int)] 5 (0, 0) (bvs [UInt8.ofNat m]) (by simp [bvs, bv, UInt8.toNat_ofNat', Nat.mod_eq_of_lt hm]))

set_option maxRecDepth 100000 in
set_option maxHeartbeats 1600000 in
theorem rtens_nat (k : Nat) : ∀ (n : Nat) (w : World), n ≤ k → n ≤ 9223372036854775807 →
    Calls Tryd.prog 31 #[.int .i64 (n : Int)] w fun e w' => e = .returned (.string (str (Lib.decDigits n))) ∧ Below w.heap.size w w' := by
  induction k using Nat.strongRecOn with
  | _ k ih =>
    intro n w hk hn
    have d0 : decide ((n : Int) < 0) = false := by simp
    have hstr := digit_str w (48 + (n : Int) % 10) (48 + n % 10) (by omega) (by omega)
    have hs1 : (str [UInt8.ofNat (48 + n % 10)]).size = 1 := str_size _
    by_cases h9 : n < 10
    · have HE : Hid (str (Lib.decDigits n) = str [UInt8.ofNat (48 + n % 10)]) := Lib.hid (by rw [Lib.decDigits_one h9, Nat.mod_eq_of_lt h9])
      obtain ⟨t, ht⟩ : ∃ t, t = str [UInt8.ofNat (48 + n % 10)] := ⟨_, rfl⟩
      rw [← ht] at hstr hs1 HE
      clear ht ih
      go_enter Tryd.func31, Tryd.ntmps31
      go_wp2_with fail
      go_ret
      exact ⟨by rw [HE.out]; rfl, (Below.refl _ _).alloc (Nat.le_refl _) _⟩
    · have HE : Hid (str (Lib.decDigits n) = str (Lib.decDigits (n / 10)) ++ str [UInt8.ofNat (48 + n % 10)]) := Lib.hid (by rw [Lib.decDigits, dif_neg h9, str_append])
      have HI := Lib.hid (fun wx : World => ih (n / 10) (by omega) (n / 10) wx (Nat.le_refl _) (by omega))
      have hs2 : (str (Lib.decDigits (n / 10))).size ≤ 19 := by rw [str_size]; exact dec_small (by omega)
      obtain ⟨t, ht⟩ : ∃ t, t = str [UInt8.ofNat (48 + n % 10)] := ⟨_, rfl⟩
      obtain ⟨u, hu⟩ : ∃ u, u = str (Lib.decDigits (n / 10)) := ⟨_, rfl⟩
      rw [← ht] at hstr hs1 HE
      rw [← hu] at hs2 HE HI
      clear ht hu ih
      go_enter Tryd.func31, Tryd.ntmps31
      go_wp2_with fail
      refine (HI.out _).mono ?_
      rintro e w' ⟨rfl, hb⟩
      have hb2 := ((Below.refl w.heap.size w).alloc (Nat.le_refl _) (.cells #[.int .u8 (48 + (n : Int) % 10)] 5)).trans (hb.mono (by simp))
      go_wp2_with fail
      go_ret
      exact ⟨by rw [HE.out]; rfl, hb2⟩
theorem rtens_small (n : Int) (w : World) (h0 : 0 ≤ n) (h1 : n ≤ 9223372036854775807) :
    Calls Tryd.prog 31 #[.int .i64 n] w fun e w' => e = .returned (.string (str (Lib.itoa n))) ∧ Below w.heap.size w w' := by
  obtain ⟨k, rfl⟩ := Int.eq_ofNat_of_zero_le h0
  have := rtens_nat k k w (Nat.le_refl _) (by omega)
  unfold Lib.itoa
  rw [if_neg (by omega), Int.toNat_natCast]
  exact this

/-- A set's text. -/
def bsh (x : BitVec 32) : List UInt8 := if lst x 32 = [] then [45] else Lib.join ((lst x 32).map Lib.itoa) [44]
theorem join_snoc (l : List (List UInt8)) (x : List UInt8) (h : l ≠ []) : Lib.join (l ++ [x]) [44] = Lib.join l [44] ++ [44] ++ x := by
  rcases l with _ | ⟨y, l⟩
  · exact absurd rfl h
  · rw [List.cons_append, Lib.join_cons, Lib.join_cons]
    simp [Lib.joinTail]
theorem lst_mem (x : BitVec 32) (k : Nat) (h : k ≤ 32) : ∀ n ∈ lst x k, 0 ≤ n ∧ n < 32 := by
  intro n hn
  have := (mem_lst x k n).1 hn
  omega
theorem itoa_len {n : Int} (h0 : 0 ≤ n) (h1 : n < 32) : (Lib.itoa n).length ≤ 2 := by
  obtain ⟨k, rfl⟩ := Int.eq_ofNat_of_zero_le h0
  unfold Lib.itoa
  rw [if_neg (by omega), Int.toNat_natCast]
  exact dec_len 1 k (by omega)
theorem joins_len (l : List Int) (h : ∀ n ∈ l, 0 ≤ n ∧ n < 32) : (Lib.join (l.map Lib.itoa) [44]).length ≤ 3 * l.length := by
  rcases l with _ | ⟨y, l⟩
  · simp [Lib.join_nil]
  · rw [List.map_cons, Lib.join_cons, List.length_append, Lib.joinTail_length]
    have h1 := itoa_len (h y (by simp)).1 (h y (by simp)).2
    have h2 : Lib.lens (l.map Lib.itoa) ≤ 2 * l.length := by
      have h3 : ∀ n ∈ l, 0 ≤ n ∧ n < 32 := fun n hn => h n (List.mem_cons_of_mem _ hn)
      clear h h1
      induction l with
      | nil => simp [Lib.lens]
      | cons z l ih =>
        have hz := itoa_len (h3 z (by simp)).1 (h3 z (by simp)).2
        have := ih (fun n hn => h3 n (List.mem_cons_of_mem _ hn))
        simp only [Lib.lens, List.map_cons, List.sum_cons, List.length_cons] at this ⊢
        omega
    simp only [List.length_map, List.length_cons, List.length_nil]
    omega
theorem bsh_len (x : BitVec 32) : (bsh x).length ≤ 96 := by
  unfold bsh
  split
  · simp
  · have h1 := joins_len (lst x 32) (lst_mem x 32 (by omega))
    have h2 := lst_len x 32
    omega

set_option maxRecDepth 100000 in
set_option maxHeartbeats 1600000 in
theorem bshow_any (x : BitVec 32) (w : World) : Calls Tryd.prog 33 #[.int .u32 (x.toNat : Int)] w fun e w' => e = .returned (.string (str (bsh x))) ∧ Below w.heap.size w w' := by
  have HLI := Lib.hid (fun wx : World => rlist_any x wx)
  have HM := Lib.hid (lst_mem x 32 (by omega))
  have hL := lst_len x 32
  have HB : Hid (bsh x = if lst x 32 = [] then [45] else Lib.join ((lst x 32).map Lib.itoa) [44]) := Lib.hid rfl
  obtain ⟨B, hB⟩ : ∃ B, B = bsh x := ⟨_, rfl⟩
  rw [← hB] at HB ⊢
  obtain ⟨l, hl⟩ : ∃ l, l = lst x 32 := ⟨_, rfl⟩
  rw [← hl] at HLI HM HB hL
  clear hl hB
  obtain ⟨n, hn⟩ : ∃ n, n = l.length := ⟨_, rfl⟩
  have HN := Lib.hid hn
  rw [← hn] at hL
  clear hn
  go_enter Tryd.func33, Tryd.ntmps33
  go_wp2_with fail
  refine (HLI.out _).mono ?_
  rintro e w1 ⟨A, c, rfl, hown, hb⟩
  rw [← HN.out] at hown ⊢
  have hs := hown.sees
  clear hown
  by_cases h0 : n = 0
  · subst h0
    have HZ : Hid (B = [45]) := Lib.hid (by rw [HB.out, if_pos (List.length_eq_zero_iff.1 HN.out.symm)])
    clear hs
    go_wp2_with fail
    go_ret
    exact ⟨by rw [HZ.out]; rfl, hb⟩
  · have hnp : 0 < n := by omega
    have hne : ((n : Int) == 0) = false := by simp; omega
    have h0l : 0 < l.length := by rw [← HN.out]; exact hnp
    have HZ : Hid (B = Lib.join (l.map Lib.itoa) [44]) := Lib.hid (by rw [HB.out, if_neg (by intro e; rw [e] at h0l; simp at h0l)])
    obtain ⟨b0, o0, rfl, hb0, hc0⟩ := hs.int 0 h0l
    obtain ⟨y, hy⟩ : ∃ y, y = l[0] := ⟨_, rfl⟩
    rw [← hy, Nat.add_zero] at hc0
    have hy1 := HM.out y (by rw [hy]; exact List.getElem_mem h0l)
    have HT := Lib.hid (fun wx : World => rtens_small y wx (by omega) (by omega))
    have HJ1 : Hid (Lib.itoa y = Lib.join ((l.take 1).map Lib.itoa) [44]) := Lib.hid (by
      rw [List.take_succ_eq_append_getElem h0l, ← hy]
      simp [Lib.join_one])
    clear h0 hy hy1 h0l
    go_wp2_with fail
    refine (HT.out _).mono ?_
    rintro e w2 ⟨rfl, hb2⟩
    have hb3 := hb.trans (hb2.mono hb.size)
    have hs2 := hs.below hb2
    have hw12 := hb2.size
    clear hs hc0 hb
    go_wp2_with fail
    go_loopw [4, 5] (fun t i wr => ∃ k : Nat, 1 ≤ k ∧ k ≤ n ∧ i = .int .i64 k ∧ (∃ p, t = .string (str p) ∧ Hid (p = Lib.join ((l.take k).map Lib.itoa) [44])) ∧ Below w.heap.size w wr ∧ Below w1.heap.size w2 wr) (fun _ i _ => n - (intOf i).toNat)
    case atStart => exact ⟨1, by omega, by omega, rfl, ⟨Lib.itoa y, rfl, HJ1⟩, hb3, Below.refl _ _⟩
    case round =>
      obtain ⟨k, hk1, hk, rfl, ⟨p, rfl, HP⟩, hbr, hbw⟩ := hrel
      have hs3 := hs2.below hbw
      by_cases hlt : k < n
      · have hkl : k < l.length := by rw [← HN.out]; exact hlt
        obtain ⟨b1, o1, e1, hb1, hc1⟩ := hs3.int k hkl
        injection e1 with e1
        injection e1 with e1 e2
        subst e1 e2
        obtain ⟨z, hz⟩ : ∃ z, z = l[k] := ⟨_, rfl⟩
        rw [← hz] at hc1
        have hz1 := HM.out z (by rw [hz]; exact List.getElem_mem hkl)
        have HTZ := Lib.hid (fun wx : World => rtens_small z wx (by omega) (by omega))
        have hq := itoa_len hz1.1 hz1.2
        have hpl : p.length ≤ 3 * k := by
          rw [HP.out]
          have := joins_len (l.take k) (fun n hn => HM.out n (List.mem_of_mem_take hn))
          rw [List.length_take] at this
          omega
        have HP1 : Hid (Lib.join ((l.take (k + 1)).map Lib.itoa) [44] = p ++ [44] ++ Lib.itoa z) := Lib.hid (by
          rw [List.take_succ_eq_append_getElem hkl, List.map_append, ← hz, List.map_cons, List.map_nil, join_snoc _ _ (by
            intro e
            have := congrArg List.length e
            rw [List.length_map, List.length_take, List.length_nil] at this
            omega), ← HP.out])
        have hps : (str p).size ≤ 96 := by rw [str_size]; omega
        have hqs : (str (Lib.itoa z)).size ≤ 2 := by rw [str_size]; exact hq
        obtain ⟨sp, hsp⟩ : ∃ sp, sp = str p := ⟨_, rfl⟩
        obtain ⟨sq, hsq⟩ : ∃ sq, sq = str (Lib.itoa z) := ⟨_, rfl⟩
        rw [← hsp] at hps ⊢
        rw [← hsq] at hqs HTZ
        have HSP := Lib.hid hsp
        have HSQ := Lib.hid hsq
        clear hsp hsq hz hz1 hq hpl hkl hs2
        go_wp2_with fail
        refine (HTZ.out _).mono ?_
        rintro e w4 ⟨rfl, hb4⟩
        have hb5 := hbr.trans (hb4.mono hbr.size)
        have hb6 := hbw.trans (hb4.mono (by have := hbw.size; omega))
        clear hc1 hs3
        go_wp2_with fail
        go_roundw
        case rel => exact ⟨k + 1, by omega, by omega, by go_num, ⟨p ++ [44] ++ Lib.itoa z, by rw [HSP.out, HSQ.out, ← str_append, ← str_append]; rfl, Lib.hid HP1.out.symm⟩, hb5, hb6⟩
        case measure => simp [intOf]; omega
      · obtain rfl : k = n := by omega
        have HP2 : Hid (B = p) := Lib.hid (by rw [HZ.out, HP.out, HN.out, List.take_length])
        go_wp2_with fail
        go_ret
        exact ⟨by rw [HP2.out]; rfl, hbr⟩
end Go.Proofs.YtgdidamjgaegkaaDoor
