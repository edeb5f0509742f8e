/- What a number's text is read as; what unquote returns of a text in quotes. -/
import Derived.Test.YtgdidamjgaegkaaDoorQuoB
import Derived.Test.YtgdidamjgaegkaaDoorTxtA
import Derived.Test.YtgdidamjgaegkaaDoorShelg
namespace Go.Proofs.YtgdidamjgaegkaaDoor
set_option linter.unusedVariables false
open Go Go.RowKit BitM MskM ValM

theorem dec_facts : ∀ (k n : Nat), n ≤ k → num (Lib.decDigits n) = n ∧ (Lib.decDigits n).all dig = true ∧ Lib.decDigits n ≠ [] ∧ (1 ≤ n → (Lib.decDigits n).headD 0 ≠ 48) := by
  intro k
  induction k using Nat.strongRecOn with
  | _ k ih =>
    intro n hn
    have key : ∀ d : Fin 10, num [UInt8.ofNat (48 + d.val)] = d.val ∧ [UInt8.ofNat (48 + d.val)].all dig = true ∧ (1 ≤ d.val → UInt8.ofNat (48 + d.val) ≠ 48) ∧ (UInt8.ofNat (48 + d.val)).toNat - 48 = d.val := by decide +kernel
    by_cases h9 : n < 10
    · rw [Lib.decDigits_one h9]
      obtain ⟨h1, h2, h3, _⟩ := key ⟨n, h9⟩
      exact ⟨h1, h2, by simp, h3⟩
    · rw [Lib.decDigits, dif_neg h9]
      obtain ⟨h1, h2, h3, h4⟩ := ih (n / 10) (by omega) (n / 10) (Nat.le_refl _)
      obtain ⟨_, k2, _, k4⟩ := key ⟨n % 10, by omega⟩
      refine ⟨?_, ?_, by simp, fun _ => ?_⟩
      · rw [num_snoc, h1]
        simp only at k4
        rw [k4]; omega
      · rw [List.all_append, h2, Bool.true_and]; exact k2
      · have h5 := h4 (by omega)
        cases hl : Lib.decDigits (n / 10) with
        | nil => exact absurd hl h3
        | cons c l => rw [hl] at h5; exact h5
theorem pint_itoa (n : Int) (h0 : 0 ≤ n) (h : n ≤ 1099511627776) : pint (Lib.itoa n) 1099511627776 = (n, true) := by
  obtain ⟨k, rfl⟩ := Int.eq_ofNat_of_zero_le h0
  have hi : Lib.itoa (k : Int) = Lib.decDigits k := by unfold Lib.itoa; rw [if_neg (by omega), Int.toNat_natCast]
  obtain ⟨h1, h2, h3, h4⟩ := dec_facts k k (Nat.le_refl _)
  have hlen := dec_len 12 k (by omega)
  rw [hi]
  unfold pint
  rw [if_neg, h1]
  rintro (e | e | ⟨e, e2⟩ | e | e)
  · exact h3 e
  · omega
  · by_cases hk : 1 ≤ k
    · exact h4 hk e2
    · have : k = 0 := by omega
      subst this
      rw [Lib.decDigits_one (by omega)] at e
      simp at e
  · rw [h2] at e; cases e
  · rw [h1] at e; omega

theorem wrapA (m : Nat) (h : m < 256) : IntKind.i64.wrap ((m : Int) / 16 * 16) = (m : Int) / 16 * 16 := by
  have key : ∀ m : Fin 256, IntKind.i64.wrap (((m.val : Nat) : Int) / 16 * 16) = ((m.val : Nat) : Int) / 16 * 16 := by decide +kernel
  exact key ⟨m, h⟩
theorem orA (m : Nat) (h : m < 256) : bits .or .i64 ((m : Int) / 16 * 16) ((m : Int) % 16) = (m : Int) := by
  have key : ∀ m : Fin 256, bits .or .i64 (((m.val : Nat) : Int) / 16 * 16) (((m.val : Nat) : Int) % 16) = ((m.val : Nat) : Int) := by decide +kernel
  exact key ⟨m, h⟩
theorem wrapB (m : Nat) (h : m < 256) : IntKind.u8.wrap (m : Int) = (m : Int) := by
  have key : ∀ m : Fin 256, IntKind.u8.wrap ((m.val : Nat) : Int) = ((m.val : Nat) : Int) := by decide +kernel
  exact key ⟨m, h⟩
theorem byte_of {t : ByteArray} {i : Nat} {a : UInt8} {r : List UInt8} (h : t.data.toList.drop i = a :: r) : ∃ h2 : i < t.size, t[i]'h2 = a ∧ t.data.toList.drop (i + 1) = r := by
  have hlt : i < t.data.toList.length := by
    rcases Nat.lt_or_ge i t.data.toList.length with h' | h'
    · exact h'
    · rw [List.drop_eq_nil_of_le h'] at h; cases h
  rw [List.drop_eq_getElem_cons hlt] at h
  injection h with h1 h2
  exact ⟨by simpa using hlt, h1, h2⟩

set_option maxRecDepth 100000 in
set_option maxHeartbeats 3200000 in
theorem unquote_any (t : ByteArray) (xs : List UInt8) (w : World) (ht : t.data.toList = quo xs) (hx : xs.length ≤ 1000) : Calls Tryd.prog 83 #[.string t] w fun e w' => e = .returned (.string (str xs)) ∧ Below w.heap.size w w' := by
  obtain ⟨i0, hi, hz0, hz1, hz2⟩ := info_parts info_byte
  have hsz : t.size = (qug xs).length + 2 := by
    have : t.data.toList.length = t.size := by simp
    rw [← this, ht]
    unfold quo
    rw [List.length_append, List.length_append]
    simp; omega
  have HQ4 := Lib.hid (qug_len xs)
  have HSZ := Lib.hid hsz
  have hts : t.size ≤ 4002 := by have := HQ4.out; omega
  clear hsz
  have HIX := Lib.hid (fun (a : UInt8) (wx : World) => (Tryd.strings_IndexByte hexs (a.toNat : Int) wx).mono fun e w' (h : e = .returned (.int .i64 (Lib.indexByte hexs.data.toList (a.toNat : Int).toNat.toUInt8)) ∧ w' = wx) => (show e = .returned (.int .i64 (Lib.indexByte hexs.data.toList a)) ∧ Below wx.heap.size wx w' from ⟨by rw [h.1]; simp, h.2 ▸ Below.refl _ _⟩))
  obtain ⟨u, hu⟩ : ∃ u, u = str xs := ⟨_, rfl⟩
  rw [← hu]
  have HU := Lib.hid hu
  clear hu
  have HT := Lib.hid ht
  clear ht
  go_enter Tryd.func83, Tryd.ntmps83
  go_wp2_with fail
  go_loopw [3, 4] (fun v ii wr => ∃ j i : Nat, j ≤ xs.length ∧ ii = .int .i64 i ∧ i ≤ 4001 ∧ Hid (i = 1 + (qug (xs.take j)).length) ∧ (∃ A1 c1, v = .slice A1 j c1 ∧ Own wr w.heap.size 5 v (bvs (xs.take j))) ∧ Below w.heap.size w wr) (fun _ ii _ => 4002 - (intOf ii).toNat)
  case atStart => exact ⟨0, 1, Nat.zero_le _, rfl, by omega, Lib.hid rfl, ⟨none, 0, rfl, ⟨rfl, .inl ⟨rfl, rfl⟩⟩⟩, Below.refl _ _⟩
  case round =>
    obtain ⟨j, i, hj, rfl, hi4, HI, ⟨A1, c1, rfl, hown⟩, hbr⟩ := hrel
    by_cases hlt : j < xs.length
    · have hsplit : qug xs = qug (xs.take j) ++ (escg xs[j] ++ qug (xs.drop (j + 1))) := by
        rw [← qug_cons, ← List.drop_eq_getElem_cons hlt, ← qug_append, List.take_append_drop]
      have hlens : (qug xs).length = (qug (xs.take j)).length + ((escg xs[j]).length + (qug (xs.drop (j + 1))).length) := by rw [hsplit, List.length_append, List.length_append]
      have HD : Hid (t.data.toList.drop i = escg xs[j] ++ (qug (xs.drop (j + 1)) ++ [34])) := Lib.hid (by
        rw [HT.out, HI.out]
        unfold quo
        rw [hsplit, List.append_assoc, List.append_assoc, ← List.drop_drop]
        simp [List.drop_left'])
      have HTJ : Hid ((xs.take j).length = j) := Lib.hid (by rw [List.length_take]; omega)
      have HTK : Hid (xs.take (j + 1) = xs.take j ++ [xs[j]]) := Lib.hid (List.take_succ_eq_append_getElem hlt)
      have hiq := HI.out
      have hsz := HSZ.out
      have hq4 := HQ4.out
      have HIN := HI
      rcases escg_kinds xs[j] with ⟨he, hn⟩ | ⟨he, hn⟩ | ⟨he, hn⟩
      · have HE := Lib.hid he
        rw [he, List.length_cons, List.length_nil] at hlens
        have hd := HD.out
        rw [he] at hd
        obtain ⟨l0, e0, hd1⟩ := byte_of hd
        have n0 : ((t[i].toNat : Int) != 92) = true := by
          rw [bne_iff_ne]; intro e; rw [e0] at e; exact hn.1 (UInt8.toNat_inj.1 (Int.ofNat_inj.1 e))
        have HB0 : Hid (t[i] = xs[j]) := Lib.hid e0
        have hg : (i : Int) < (t.size : Int) - 1 := by omega
        have hi6 : i + 1 ≤ 4001 := by omega
        clear he hn hd hd1 e0 hsplit hiq hsz hq4 hlens
        go_wp2_with (first
          | (at_builtin
             refine wpList_app _ rfl (.tmp 18) (.tmp 20) _ rfl w.heap.size 5 i0 _ 1 Tryd.underlying68 hi hz0 hz1 hz2 rfl (.slice A1 j c1) (bvs (xs.take j)) j rfl (by rw [bvs_length, HTJ.out]) (hown.alloc _) (wr.heap.size + 1) (some ⟨wr.heap.size, 0, none⟩) 1 (bvs [t[i]]) 1 rfl rfl (sees_lit wr _ 5 (0, 0) _ rfl) (bvs_one _) (by simp [maxLen]; omega) (by omega) (by have := hbr.size; simp; omega) ?_
             intro A9 c9 w9 hown9 hb9 hg9 hat9
             rw [← bvs_append, HB0.out, ← HTK.out] at hown9
             have hbr9 : Below w.heap.size w w9 := (hbr.alloc hbr.size _).trans hb9
             clear hg9 hat9 hb9 hown hbr)
          | fail)
        go_roundw
        case rel => exact ⟨j + 1, i + 1, by omega, by go_num, by omega, Lib.hid (by rw [HIN.out, HTK.out, qug_snoc, List.length_append, HE.out]; simp; try omega), ⟨A9, c9, rfl, hown9⟩, hbr9⟩
        case measure => simp [intOf]; omega
      · have HE := Lib.hid he
        rw [he] at hlens
        simp only [List.length_cons, List.length_nil] at hlens
        have hd := HD.out
        rw [he] at hd
        obtain ⟨l0, e0, hd1⟩ := byte_of hd
        obtain ⟨l1, e1, hd2⟩ := byte_of hd1
        have n0 : ((t[i].toNat : Int) != 92) = false := by rw [e0]; rfl
        have n1 : ((t[i + 1].toNat : Int) == 120) = false := by
          rw [e1, beq_eq_false_iff_ne]; rcases hn with h | h <;> rw [h] <;> decide
        have HB1 : Hid (t[i + 1] = xs[j]) := Lib.hid e1
        have hg : (i : Int) < (t.size : Int) - 1 := by omega
        have hi6 : i + 2 ≤ 4001 := by omega
        clear he hn hd hd1 hd2 e0 e1 hsplit hiq hsz hq4 hlens
        go_wp2_with (first
          | (at_builtin
             refine wpList_app _ rfl (.tmp 51) (.tmp 53) _ rfl w.heap.size 5 i0 _ 1 Tryd.underlying68 hi hz0 hz1 hz2 rfl (.slice A1 j c1) (bvs (xs.take j)) j rfl (by rw [bvs_length, HTJ.out]) (hown.alloc _) (wr.heap.size + 1) (some ⟨wr.heap.size, 0, none⟩) 1 (bvs [t[i + 1]]) 1 rfl rfl (sees_lit wr _ 5 (0, 0) _ rfl) (bvs_one _) (by simp [maxLen]; omega) (by omega) (by have := hbr.size; simp; omega) ?_
             intro A9 c9 w9 hown9 hb9 hg9 hat9
             rw [← bvs_append, HB1.out, ← HTK.out] at hown9
             have hbr9 : Below w.heap.size w w9 := (hbr.alloc hbr.size _).trans hb9
             clear hg9 hat9 hb9 hown hbr)
          | fail)
        go_roundw
        case rel => exact ⟨j + 1, i + 2, by omega, by go_num, by omega, Lib.hid (by rw [HIN.out, HTK.out, qug_snoc, List.length_append, HE.out]; simp; try omega), ⟨A9, c9, rfl, hown9⟩, hbr9⟩
        case measure => simp [intOf]; omega
      · have HE := Lib.hid he
        rw [he] at hlens
        simp only [List.length_cons, List.length_nil] at hlens
        have hd := HD.out
        rw [he] at hd
        obtain ⟨l0, e0, hd1⟩ := byte_of hd
        obtain ⟨l1, e1, hd2⟩ := byte_of hd1
        obtain ⟨l2, e2, hd3⟩ := byte_of hd2
        obtain ⟨l3, e3, hd4⟩ := byte_of hd3
        have n0 : ((t[i].toNat : Int) != 92) = false := by rw [e0]; rfl
        have n1 : ((t[i + 1].toNat : Int) == 120) = true := by rw [e1]; rfl
        have hm := UInt8.toNat_lt xs[j]
        have l3' : i + 1 + 2 < t.size := l3
        have e3' : t[i + 1 + 2] = hexd (xs[j].toNat % 16) := e3
        have HB : Hid (UInt8.ofNat xs[j].toNat = xs[j]) := Lib.hid (by simp)
        obtain ⟨m, hmm⟩ : ∃ m, m = xs[j].toNat := ⟨_, rfl⟩
        rw [← hmm] at hm e2 e3' HB
        have HX2 : Hid (∀ wx : World, Calls Tryd.prog 97 #[.string hexs, .int .u8 (t[i + 1 + 1].toNat : Int)] wx fun e w' => e = .returned (.int .i64 ((m / 16 : Nat) : Int)) ∧ Below wx.heap.size wx w') := Lib.hid (fun wx => by
          have := HIX.out t[i + 1 + 1] wx
          rw [show Lib.indexByte hexs.data.toList t[i + 1 + 1] = ((m / 16 : Nat) : Int) by rw [e2]; exact hexs_index _ (by omega)] at this
          exact this)
        have HX3 : Hid (∀ wx : World, Calls Tryd.prog 97 #[.string hexs, .int .u8 (t[i + 1 + 2].toNat : Int)] wx fun e w' => e = .returned (.int .i64 ((m % 16 : Nat) : Int)) ∧ Below wx.heap.size wx w') := Lib.hid (fun wx => by
          have := HIX.out t[i + 1 + 2] wx
          rw [show Lib.indexByte hexs.data.toList t[i + 1 + 2] = ((m % 16 : Nat) : Int) by rw [e3']; exact hexs_index _ (by omega)] at this
          exact this)
        have hg : (i : Int) < (t.size : Int) - 1 := by omega
        have hg2 : (i : Int) + 1 + 2 < (t.size : Int) := by omega
        have hy1 : (0 : Int) ≤ (i : Int) + 1 + 1 := by omega
        have hy2 : (i : Int) + 1 + 1 < (t.size : Int) := by omega
        have hy3 : (0 : Int) ≤ (i : Int) + 1 + 2 := by omega
        have hi6 : i + 4 ≤ 4001 := by omega
        clear he hn hd hd1 hd2 hd3 hd4 e0 e1 e2 e3 e3' hsplit hmm l3 hiq hsz hq4 hlens
        go_wp2_with fail
        refine wp_region_steady [] 57 (by kernel_rfl) (by kernel_rfl) (by kernel_rfl) (by rfl) ?_
        iterate 4 (refine wpG_quiet (by rfl) (by rfl) (by rfl) (fun K hK => ?_); go_big_quiet_op; refine hK _ ?_; clear hK K)
        refine wpG_call (by rfl) (by rfl) 97 #[.string { data := #[48, 49, 50, 51, 52, 53, 54, 55, 56, 57, 97, 98, 99, 100, 101, 102] }, .int .u8 (t[i + 1 + 1].toNat : Int)] (.int .i64 ((m / 16 : Nat) : Int)) (by intro _; simp [go_sem]) (by kernel_rfl) (fun w1 hl => (HX2.out w1)) ?_
        simp only [Act.put, List.setIfInBounds_toArray, List.set_cons_zero, List.set_cons_succ]
        refine wpG_run (by rfl) (by rfl) (.int .i64 ((m / 16 * 16 : Nat) : Int)) (fun w1 hl => by simp [go_sem]; exact wrapA m hm) ?_
        simp only [Act.put, List.setIfInBounds_toArray, List.set_cons_zero, List.set_cons_succ]
        iterate 4 (refine wpG_quiet (by rfl) (by rfl) (by rfl) (fun K hK => ?_); go_big_quiet_op; refine hK _ ?_; clear hK K)
        refine wpG_call (by rfl) (by rfl) 97 #[.string { data := #[48, 49, 50, 51, 52, 53, 54, 55, 56, 57, 97, 98, 99, 100, 101, 102] }, .int .u8 (t[i + 1 + 2].toNat : Int)] (.int .i64 ((m % 16 : Nat) : Int)) (by intro _; simp [go_sem]) (by kernel_rfl) (fun w1 hl => (HX3.out w1)) ?_
        simp only [Act.put, List.setIfInBounds_toArray, List.set_cons_zero, List.set_cons_succ]
        refine wpG_run (by rfl) (by rfl) (.int .i64 (m : Int)) (fun w1 hl => by simp [go_sem]; exact orA m hm) ?_
        simp only [Act.put, List.setIfInBounds_toArray, List.set_cons_zero, List.set_cons_succ]
        refine wpG_run (by rfl) (by rfl) (.int .u8 (m : Int)) (fun w1 hl => by simp [go_sem]; exact wrapB m hm) ?_
        simp only [Act.put, List.setIfInBounds_toArray, List.set_cons_zero, List.set_cons_succ]
        iterate 1 (refine wpG_quiet (by rfl) (by rfl) (by rfl) (fun K hK => ?_); go_big_quiet_op; refine hK _ ?_; clear hK K)
        refine wpG_nil fun w1 hl _ => ?_
        replace hown := hown.later hl
        replace hbr := hbr.trans (hl.mono hbr.size)
        have hi7 : (i : Int) + 1 + 2 + 1 = (i : Int) + 4 := by omega
        clear hl
        go_wp2_with (first
          | (at_builtin
             refine wpList_app _ rfl (.tmp 51) (.tmp 53) _ rfl w.heap.size 5 i0 _ 1 Tryd.underlying68 hi hz0 hz1 hz2 rfl (.slice A1 j c1) (bvs (xs.take j)) j rfl (by rw [bvs_length, HTJ.out]) (hown.alloc _) (w1.heap.size + 1) (some ⟨w1.heap.size, 0, none⟩) 1 (bvs [UInt8.ofNat m]) 1 rfl rfl (sees_lit w1 _ 5 (0, 0) _ (by simp [bvs, bv, Nat.mod_eq_of_lt hm])) (bvs_one _) (by simp [maxLen]; omega) (by omega) (by have := hbr.size; simp; omega) ?_
             intro A9 c9 w9 hown9 hb9 hg9 hat9
             rw [← bvs_append, HB.out, ← HTK.out] at hown9
             have hbr9 : Below w.heap.size w w9 := (hbr.alloc hbr.size _).trans hb9
             clear hg9 hat9 hb9 hown hbr)
          | fail)
        go_roundw
        case rel => exact ⟨j + 1, i + 4, by omega, by go_num, by omega, Lib.hid (by rw [HIN.out, HTK.out, qug_snoc, List.length_append, HE.out]; simp; try omega), ⟨A9, c9, rfl, hown9⟩, hbr9⟩
        case measure => simp [intOf]; omega
    · obtain rfl : j = xs.length := by omega
      have hiq := HI.out
      have hsz := HSZ.out
      rw [List.take_length] at hown hiq
      have hg : ¬ (i : Int) < (t.size : Int) - 1 := by omega
      clear hiq hsz
      have hcv := run_str (P := Tryd.prog) wr wr.heap.size 68 5 9 Tryd.underlying68 Tryd.underlying5 Tryd.underlying9 A1 xs.length c1 xs rfl hown.sees
      rw [← HU.out] at hcv
      clear hown
      go_wp2_with fail
      go_ret
      exact ⟨rfl, hbr⟩
end Go.Proofs.YtgdidamjgaegkaaDoor
