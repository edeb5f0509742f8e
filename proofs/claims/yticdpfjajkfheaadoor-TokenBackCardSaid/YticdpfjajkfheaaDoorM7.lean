/- What a number's text is read as; what unquote returns of a text in quotes. -/
import Derived.Test.YticdpfjajkfheaaDoorM6
import Derived.Test.YticdpfjajkfheaaDoorM5
import Derived.Test.YticdpfjajkfheaaDoorM1
import Derived.Test.YticdpfjajkfheaaDoorM3
namespace Go.Proofs.YticdpfjajkfheaaDoor
set_option linter.unusedVariables false
open Go Go.RowKit BitM MskM ValM

theorem dec_facts : ∀ (k n : Nat), n ≤ k → num (Lib.decDigits n) = n ∧ (Lib.decDigits n).all dig = true ∧ Lib.decDigits n ≠ [] ∧ (1 ≤ n → (Lib.decDigits n).headD 0 ≠ 48) := by
  intro k
  induction k using Nat.strongRecOn with
  | _ k ih =>
    intro n hn
    have key : ∀ d : Fin 10, num [UInt8.ofNat (48 + d.val)] = d.val ∧ [UInt8.ofNat (48 + d.val)].all dig = true ∧ (1 ≤ d.val → UInt8.ofNat (48 + d.val) ≠ 48) ∧ (UInt8.ofNat (48 + d.val)).toNat - 48 = d.val := by decide +kernel
    by_cases h9 : n < 10
    · rw [Lib.decDigits_one h9]
      obtain ⟨h1, h2, h3, _⟩ := key ⟨n, h9⟩
      exact ⟨h1, h2, by simp, h3⟩
    · rw [Lib.decDigits, dif_neg h9]
      obtain ⟨h1, h2, h3, h4⟩ := ih (n / 10) (by omega) (n / 10) (Nat.le_refl _)
      obtain ⟨_, k2, _, k4⟩ := key ⟨n % 10, by omega⟩
      refine ⟨?_, ?_, by simp, fun _ => ?_⟩
      · rw [num_snoc, h1]
        simp only at k4
        rw [k4]; omega
      · rw [List.all_append, h2, Bool.true_and]; exact k2
      · have h5 := h4 (by omega)
        cases hl : Lib.decDigits (n / 10) with
        | nil => exact absurd hl h3
        | cons c l => rw [hl] at h5; exact h5
theorem pint_itoa (n : Int) (h0 : 0 ≤ n) (h : n ≤ 1099511627776) : pint (Lib.itoa n) 1099511627776 = (n, true) := by
  obtain ⟨k, rfl⟩ := Int.eq_ofNat_of_zero_le h0
  have hi : Lib.itoa (k : Int) = Lib.decDigits k := by unfold Lib.itoa; rw [if_neg (by omega), Int.toNat_natCast]
  obtain ⟨h1, h2, h3, h4⟩ := dec_facts k k (Nat.le_refl _)
  have hlen := dec_len 12 k (by omega)
  rw [hi]
  unfold pint
  rw [if_neg, h1]
  rintro (e | e | ⟨e, e2⟩ | e | e)
  · exact h3 e
  · omega
  · by_cases hk : 1 ≤ k
    · exact h4 hk e2
    · have : k = 0 := by omega
      subst this
      rw [Lib.decDigits_one (by omega)] at e
      simp at e
  · rw [h2] at e; cases e
  · rw [h1] at e; omega

theorem wrapA (m : Nat) (h : m < 256) : IntKind.i64.wrap ((m : Int) / 16 * 16) = (m : Int) / 16 * 16 := by
  have key : ∀ m : Fin 256, IntKind.i64.wrap (((m.val : Nat) : Int) / 16 * 16) = ((m.val : Nat) : Int) / 16 * 16 := by decide +kernel
  exact key ⟨m, h⟩
theorem orA (m : Nat) (h : m < 256) : bits .or .i64 ((m : Int) / 16 * 16) ((m : Int) % 16) = (m : Int) := by
  have key : ∀ m : Fin 256, bits .or .i64 (((m.val : Nat) : Int) / 16 * 16) (((m.val : Nat) : Int) % 16) = ((m.val : Nat) : Int) := by decide +kernel
  exact key ⟨m, h⟩
theorem wrapB (m : Nat) (h : m < 256) : IntKind.u8.wrap (m : Int) = (m : Int) := by
  have key : ∀ m : Fin 256, IntKind.u8.wrap ((m.val : Nat) : Int) = ((m.val : Nat) : Int) := by decide +kernel
  exact key ⟨m, h⟩
theorem byte_of {t : ByteArray} {i : Nat} {a : UInt8} {r : List UInt8} (h : t.data.toList.drop i = a :: r) : ∃ h2 : i < t.size, t[i]'h2 = a ∧ t.data.toList.drop (i + 1) = r := by
  have hlt : i < t.data.toList.length := by
    rcases Nat.lt_or_ge i t.data.toList.length with h' | h'
    · exact h'
    · rw [List.drop_eq_nil_of_le h'] at h; cases h
  rw [List.drop_eq_getElem_cons hlt] at h
  injection h with h1 h2
  exact ⟨by simpa using hlt, h1, h2⟩

set_option maxRecDepth 100000 in
set_option maxHeartbeats 3200000 in
theorem unquote_any (t : ByteArray) (xs : List UInt8) (w : World) (ht : t.data.toList = quo xs) (hx : xs.length ≤ 1000) : Calls Tryd.prog 74 #[.string t] w fun e w' => e = .returned (.string (str xs)) ∧ Below w.heap.size w w' := by
  obtain ⟨i0, hi, hz0, hz1, hz2⟩ := info_parts info_byte
  have hsz : t.size = (qug xs).length + 2 := by
    have : t.data.toList.length = t.size := by simp
    rw [← this, ht]
    unfold quo
    rw [List.length_append, List.length_append]
    simp; omega
  have HQ4 := Lib.hid (qug_len xs)
  have HSZ := Lib.hid hsz
  have hts : t.size ≤ 4002 := by have := HQ4.out; omega
  clear hsz
  have HIX := Lib.hid (fun (a : UInt8) (wx : World) => (Tryd.strings_IndexByte hexs (a.toNat : Int) wx).mono fun e w' (h : e = .returned (.int .i64 (Lib.indexByte hexs.data.toList (a.toNat : Int).toNat.toUInt8)) ∧ w' = wx) => (show e = .returned (.int .i64 (Lib.indexByte hexs.data.toList a)) ∧ Below wx.heap.size wx w' from ⟨by rw [h.1]; simp, h.2 ▸ Below.refl _ _⟩))
  obtain ⟨u, hu⟩ : ∃ u, u = str xs := ⟨_, rfl⟩
  rw [← hu]
  have HU := Lib.hid hu
  clear hu
  have HT := Lib.hid ht
  clear ht
  go_enter Tryd.func74, Tryd.ntmps74
  go_wp2_with fail
  go_loopw [3, 4] (fun v ii wr => ∃ j i : Nat, j ≤ xs.length ∧ ii = .int .i64 i ∧ i ≤ 4001 ∧ Hid (i = 1 + (qug (xs.take j)).length) ∧ (∃ A1 c1, v = .slice A1 j c1 ∧ Own wr w.heap.size 5 v (bvs (xs.take j))) ∧ Below w.heap.size w wr) (fun _ ii _ => 4002 - (intOf ii).toNat)
  case atStart => exact ⟨0, 1, Nat.zero_le _, rfl, by omega, Lib.hid rfl, ⟨none, 0, rfl, ⟨rfl, .inl ⟨rfl, rfl⟩⟩⟩, Below.refl _ _⟩
  case round =>
    obtain ⟨j, i, hj, rfl, hi4, HI, ⟨A1, c1, rfl, hown⟩, hbr⟩ := hrel
    by_cases hlt : j < xs.length
    · have hsplit : qug xs = qug (xs.take j) ++ (escg xs[j] ++ qug (xs.drop (j + 1))) := by
        rw [← qug_cons, ← List.drop_eq_getElem_cons hlt, ← qug_append, List.take_append_drop]
      have hlens : (qug xs).length = (qug (xs.take j)).length + ((escg xs[j]).length + (qug (xs.drop (j + 1))).length) := by rw [hsplit, List.length_append, List.length_append]
      have HD : Hid (t.data.toList.drop i = escg xs[j] ++ (qug (xs.drop (j + 1)) ++ [34])) := Lib.hid (by
        rw [HT.out, HI.out]
        unfold quo
        rw [hsplit, List.append_assoc, List.append_assoc, ← List.drop_drop]
        simp [List.drop_left'])
      have HTJ : Hid ((xs.take j).length = j) := Lib.hid (by rw [List.length_take]; omega)
      have HTK : Hid (xs.take (j + 1) = xs.take j ++ [xs[j]]) := Lib.hid (List.take_succ_eq_append_getElem hlt)
      have hiq := HI.out
      have hsz := HSZ.out
      have hq4 := HQ4.out
      have HIN := HI
      rcases escg_kinds xs[j] with ⟨he, hn⟩ | ⟨he, hn⟩ | ⟨he, hn⟩
      · have HE := Lib.hid he
        rw [he, List.length_cons, List.length_nil] at hlens
        have hd := HD.out
        rw [he] at hd
        obtain ⟨l0, e0, hd1⟩ := byte_of hd
        have n0 : ((t[i].toNat : Int) != 92) = true := by
          rw [bne_iff_ne]; intro e; rw [e0] at e; exact hn.1 (UInt8.toNat_inj.1 (Int.ofNat_inj.1 e))
        have HB0 : Hid (t[i] = xs[j]) := Lib.hid e0
        have hg : (i : Int) < (t.size : Int) - 1 := by omega
        have hi6 : i + 1 ≤ 4001 := by omega
        clear he hn hd hd1 e0 hsplit hiq hsz hq4 hlens
        go_wp2_with (first
          | (at_builtin
             refine wpList_app _ rfl (.tmp 18) (.tmp 20) _ rfl w.heap.size 5 i0 _ 1 Tryd.underlying48 hi hz0 hz1 hz2 rfl (.slice A1 j c1) (bvs (xs.take j)) j rfl (by rw [bvs_length, HTJ.out]) (hown.alloc _) (wr.heap.size + 1) (some ⟨wr.heap.size, 0, none⟩) 1 (bvs [t[i]]) 1 rfl rfl (sees_lit wr _ 5 (0, 0) _ rfl) (bvs_one _) (by simp [maxLen]; omega) (by omega) (by have := hbr.size; simp; omega) ?_
             intro A9 c9 w9 hown9 hb9 hg9 hat9
             rw [← bvs_append, HB0.out, ← HTK.out] at hown9
             have hbr9 : Below w.heap.size w w9 := (hbr.alloc hbr.size _).trans hb9
             clear hg9 hat9 hb9 hown hbr)
          | fail)
        go_roundw
        case rel => exact ⟨j + 1, i + 1, by omega, by go_num, by omega, Lib.hid (by rw [HIN.out, HTK.out, qug_snoc, List.length_append, HE.out]; simp; try omega), ⟨A9, c9, rfl, hown9⟩, hbr9⟩
        case measure => simp [intOf]; omega
      · have HE := Lib.hid he
        rw [he] at hlens
        simp only [List.length_cons, List.length_nil] at hlens
        have hd := HD.out
        rw [he] at hd
        obtain ⟨l0, e0, hd1⟩ := byte_of hd
        obtain ⟨l1, e1, hd2⟩ := byte_of hd1
        have n0 : ((t[i].toNat : Int) != 92) = false := by rw [e0]; rfl
        have n1 : ((t[i + 1].toNat : Int) == 120) = false := by
          rw [e1, beq_eq_false_iff_ne]; rcases hn with h | h <;> rw [h] <;> decide
        have HB1 : Hid (t[i + 1] = xs[j]) := Lib.hid e1
        have hg : (i : Int) < (t.size : Int) - 1 := by omega
        have hi6 : i + 2 ≤ 4001 := by omega
        clear he hn hd hd1 hd2 e0 e1 hsplit hiq hsz hq4 hlens
        go_wp2_with (first
          | (at_builtin
             refine wpList_app _ rfl (.tmp 51) (.tmp 53) _ rfl w.heap.size 5 i0 _ 1 Tryd.underlying48 hi hz0 hz1 hz2 rfl (.slice A1 j c1) (bvs (xs.take j)) j rfl (by rw [bvs_length, HTJ.out]) (hown.alloc _) (wr.heap.size + 1) (some ⟨wr.heap.size, 0, none⟩) 1 (bvs [t[i + 1]]) 1 rfl rfl (sees_lit wr _ 5 (0, 0) _ rfl) (bvs_one _) (by simp [maxLen]; omega) (by omega) (by have := hbr.size; simp; omega) ?_
             intro A9 c9 w9 hown9 hb9 hg9 hat9
             rw [← bvs_append, HB1.out, ← HTK.out] at hown9
             have hbr9 : Below w.heap.size w w9 := (hbr.alloc hbr.size _).trans hb9
             clear hg9 hat9 hb9 hown hbr)
          | fail)
        go_roundw
        case rel => exact ⟨j + 1, i + 2, by omega, by go_num, by omega, Lib.hid (by rw [HIN.out, HTK.out, qug_snoc, List.length_append, HE.out]; simp; try omega), ⟨A9, c9, rfl, hown9⟩, hbr9⟩
        case measure => simp [intOf]; omega
      · have HE := Lib.hid he
        rw [he] at hlens
        simp only [List.length_cons, List.length_nil] at hlens
        have hd := HD.out
        rw [he] at hd
        obtain ⟨l0, e0, hd1⟩ := byte_of hd
        obtain ⟨l1, e1, hd2⟩ := byte_of hd1
        obtain ⟨l2, e2, hd3⟩ := byte_of hd2
        obtain ⟨l3, e3, hd4⟩ := byte_of hd3
        have n0 : ((t[i].toNat : Int) != 92) = false := by rw [e0]; rfl
        have n1 : ((t[i + 1].toNat : Int) == 120) = true := by rw [e1]; rfl
        have hm := UInt8.toNat_lt xs[j]
        have l3' : i + 1 + 2 < t.size := l3
        have e3' : t[i + 1 + 2] = hexd (xs[j].toNat % 16) := e3
        have HB : Hid (UInt8.ofNat xs[j].toNat = xs[j]) := Lib.hid (by simp)
        obtain ⟨m, hmm⟩ : ∃ m, m = xs[j].toNat := ⟨_, rfl⟩
        rw [← hmm] at hm e2 e3' HB
        have HX2 : Hid (∀ wx : World, Calls Tryd.prog 58 #[.string hexs, .int .u8 (t[i + 1 + 1].toNat : Int)] wx fun e w' => e = .returned (.int .i64 ((m / 16 : Nat) : Int)) ∧ Below wx.heap.size wx w') := Lib.hid (fun wx => by
          have := HIX.out t[i + 1 + 1] wx
          rw [show Lib.indexByte hexs.data.toList t[i + 1 + 1] = ((m / 16 : Nat) : Int) by rw [e2]; exact hexs_index _ (by omega)] at this
          exact this)
        have HX3 : Hid (∀ wx : World, Calls Tryd.prog 58 #[.string hexs, .int .u8 (t[i + 1 + 2].toNat : Int)] wx fun e w' => e = .returned (.int .i64 ((m % 16 : Nat) : Int)) ∧ Below wx.heap.size wx w') := Lib.hid (fun wx => by
          have := HIX.out t[i + 1 + 2] wx
          rw [show Lib.indexByte hexs.data.toList t[i + 1 + 2] = ((m % 16 : Nat) : Int) by rw [e3']; exact hexs_index _ (by omega)] at this
          exact this)
        have hg : (i : Int) < (t.size : Int) - 1 := by omega
        have hg2 : (i : Int) + 1 + 2 < (t.size : Int) := by omega
        have hy1 : (0 : Int) ≤ (i : Int) + 1 + 1 := by omega
        have hy2 : (i : Int) + 1 + 1 < (t.size : Int) := by omega
        have hy3 : (0 : Int) ≤ (i : Int) + 1 + 2 := by omega
        have hi6 : i + 4 ≤ 4001 := by omega
        clear he hn hd hd1 hd2 hd3 hd4 e0 e1 e2 e3 e3' hsplit hmm l3 hiq hsz hq4 hlens
        go_wp2_with fail
        refine wp_region_steady [] 57 (by kernel_rfl) (by kernel_rfl) (by kernel_rfl) (by rfl) ?_
        iterate 4 (refine wpG_quiet (by rfl) (by rfl) (by rfl) (fun K hK => ?_); go_big_quiet_op; refine hK _ ?_; clear hK K)
        refine wpG_call (by rfl) (by rfl) 58 #[.string { data := #[48, 49, 50, 51, 52, 53, 54, 55, 56, 57, 97, 98, 99, 100, 101, 102] }, .int .u8 (t[i + 1 + 1].toNat : Int)] (.int .i64 ((m / 16 : Nat) : Int)) (by intro _; simp [go_sem]) (by kernel_rfl) (fun w1 hl => (HX2.out w1)) ?_
        simp only [Act.put, List.setIfInBounds_toArray, List.set_cons_zero, List.set_cons_succ]
        refine wpG_run (by rfl) (by rfl) (.int .i64 ((m / 16 * 16 : Nat) : Int)) (fun w1 hl => by simp [go_sem]; exact wrapA m hm) ?_
        simp only [Act.put, List.setIfInBounds_toArray, List.set_cons_zero, List.set_cons_succ]
        iterate 4 (refine wpG_quiet (by rfl) (by rfl) (by rfl) (fun K hK => ?_); go_big_quiet_op; refine hK _ ?_; clear hK K)
        refine wpG_call (by rfl) (by rfl) 58 #[.string { data := #[48, 49, 50, 51, 52, 53, 54, 55, 56, 57, 97, 98, 99, 100, 101, 102] }, .int .u8 (t[i + 1 + 2].toNat : Int)] (.int .i64 ((m % 16 : Nat) : Int)) (by intro _; simp [go_sem]) (by kernel_rfl) (fun w1 hl => (HX3.out w1)) ?_
        simp only [Act.put, List.setIfInBounds_toArray, List.set_cons_zero, List.set_cons_succ]
        refine wpG_run (by rfl) (by rfl) (.int .i64 (m : Int)) (fun w1 hl => by simp [go_sem]; exact orA m hm) ?_
        simp only [Act.put, List.setIfInBounds_toArray, List.set_cons_zero, List.set_cons_succ]
        refine wpG_run (by rfl) (by rfl) (.int .u8 (m : Int)) (fun w1 hl => by simp [go_sem]; exact wrapB m hm) ?_
        simp only [Act.put, List.setIfInBounds_toArray, List.set_cons_zero, List.set_cons_succ]
        iterate 1 (refine wpG_quiet (by rfl) (by rfl) (by rfl) (fun K hK => ?_); go_big_quiet_op; refine hK _ ?_; clear hK K)
        refine wpG_nil fun w1 hl _ => ?_
        replace hown := hown.later hl
        replace hbr := hbr.trans (hl.mono hbr.size)
        have hi7 : (i : Int) + 1 + 2 + 1 = (i : Int) + 4 := by omega
        clear hl
        go_wp2_with (first
          | (at_builtin
             refine wpList_app _ rfl (.tmp 51) (.tmp 53) _ rfl w.heap.size 5 i0 _ 1 Tryd.underlying48 hi hz0 hz1 hz2 rfl (.slice A1 j c1) (bvs (xs.take j)) j rfl (by rw [bvs_length, HTJ.out]) (hown.alloc _) (w1.heap.size + 1) (some ⟨w1.heap.size, 0, none⟩) 1 (bvs [UInt8.ofNat m]) 1 rfl rfl (sees_lit w1 _ 5 (0, 0) _ (by simp [bvs, bv, Nat.mod_eq_of_lt hm])) (bvs_one _) (by simp [maxLen]; omega) (by omega) (by have := hbr.size; simp; omega) ?_
             intro A9 c9 w9 hown9 hb9 hg9 hat9
             rw [← bvs_append, HB.out, ← HTK.out] at hown9
             have hbr9 : Below w.heap.size w w9 := (hbr.alloc hbr.size _).trans hb9
             clear hg9 hat9 hb9 hown hbr)
          | fail)
        go_roundw
        case rel => exact ⟨j + 1, i + 4, by omega, by go_num, by omega, Lib.hid (by rw [HIN.out, HTK.out, qug_snoc, List.length_append, HE.out]; simp; try omega), ⟨A9, c9, rfl, hown9⟩, hbr9⟩
        case measure => simp [intOf]; omega
    · obtain rfl : j = xs.length := by omega
      have hiq := HI.out
      have hsz := HSZ.out
      rw [List.take_length] at hown hiq
      have hg : ¬ (i : Int) < (t.size : Int) - 1 := by omega
      clear hiq hsz
      have hcv := run_str (P := Tryd.prog) wr wr.heap.size 48 5 9 Tryd.underlying48 Tryd.underlying5 Tryd.underlying9 A1 xs.length c1 xs rfl hown.sees
      rw [← HU.out] at hcv
      clear hown
      go_wp2_with fail
      go_ret
      exact ⟨rfl, hbr⟩
end Go.Proofs.YticdpfjajkfheaaDoor

/- The document's text of any number; what a number's text is read as, up to any number. -/
namespace Go.Proofs.YticdpfjajkfheaaDoor
set_option linter.unusedVariables false
open Go Go.RowKit BitM MskM

theorem itoa_min : str (Lib.itoa (-9223372036854775808)) = ⟨#[45, 57, 50, 50, 51, 51, 55, 50, 48, 51, 54, 56, 53, 52, 55, 55, 53, 56, 48, 56]⟩ := by decide +kernel
theorem rtens_any (n : Int) (w : World) (h0 : -9223372036854775808 ≤ n) (h1 : n ≤ 9223372036854775807) :
    Calls Tryd.prog 38 #[.int .i64 n] w fun e w' => e = .returned (.string (str (Lib.itoa n))) ∧ Below w.heap.size w w' := by
  by_cases hn : 0 ≤ n
  · exact rtens_small n w hn h1
  · by_cases hm : n = -9223372036854775808
    · subst hm
      rw [itoa_min]
      go_enter Tryd.func38, Tryd.ntmps38
      go_wp2_with fail
      go_ret
      exact ⟨rfl, Below.refl _ _⟩
    · obtain ⟨k, hk⟩ : ∃ k : Nat, -n = (k : Int) := ⟨(-n).toNat, by omega⟩
      have hd : decide (n < 0) = true := by simp; omega
      have he : (n == -9223372036854775808) = false := by rw [beq_eq_false_iff_ne]; exact hm
      have hu : (Lib.decDigits k).length ≤ 19 := dec_small (by omega)
      have HE : Hid (str (Lib.itoa n) = ⟨#[45]⟩ ++ str (Lib.decDigits k)) := Lib.hid (by
        have : Lib.itoa n = [45] ++ Lib.decDigits k := by
          rw [show n = -(k : Int) by omega, Lib.itoa_neg k (by omega)]; rfl
        rw [this, ← str_append]; rfl)
      have HR := Lib.hid (fun wx : World => (show Calls Tryd.prog 38 #[.int .i64 (-n)] wx fun e w' => e = .returned (.string (str (Lib.decDigits k))) ∧ Below wx.heap.size wx w' from by
        rw [hk]; exact rtens_nat k k wx (Nat.le_refl _) (by omega)))
      have hz : (str (Lib.decDigits k)).size ≤ 19 := by rw [str_size]; exact hu
      obtain ⟨u, hu2⟩ : ∃ u, u = str (Lib.decDigits k) := ⟨_, rfl⟩
      rw [← hu2] at HR hz HE
      obtain ⟨r, hr⟩ : ∃ r, r = str (Lib.itoa n) := ⟨_, rfl⟩
      rw [← hr] at HE ⊢
      have hlo : n < 0 := by omega
      have hhi : -9223372036854775807 ≤ n := by omega
      clear hu2 hr hk hu hn hm
      go_enter Tryd.func38, Tryd.ntmps38
      go_wp2_with fail
      refine (HR.out _).mono ?_
      rintro e w1 ⟨rfl, hb⟩
      go_wp2_with fail
      go_ret
      exact ⟨by rw [HE.out]; rfl, hb⟩

/-- What a number's text is read as, up to any number. -/
theorem pint_most (n most : Int) (h0 : 0 ≤ n) (hn : n ≤ 1099511627776) : pint (Lib.itoa n) most = if n ≤ most then (n, true) else (0, false) := by
  have h := pint_itoa n h0 hn
  unfold pint at h ⊢
  split at h
  · cases h
  · rename_i hc
    injection h with h1 h2
    simp only [not_or] at hc
    obtain ⟨c1, c2, c3, c4, c5⟩ := hc
    by_cases hm : n ≤ most
    · rw [if_pos hm, if_neg, h1]
      rintro (e | e | e | e | e)
      · exact c1 e
      · exact c2 e
      · exact c3 e
      · exact c4 e
      · omega
    · rw [if_neg hm, if_pos]
      exact .inr (.inr (.inr (.inr (by omega))))
theorem pint_neg (n most : Int) (h0 : n < 0) : pint (Lib.itoa n) most = (0, false) := by
  have e : Lib.itoa n = 45 :: Lib.decDigits (-n).toNat := by
    have h := Lib.itoa_neg (-n).toNat (by omega)
    rw [show -(((-n).toNat : Nat) : Int) = n by omega] at h
    exact h
  rw [e]
  unfold pint
  rw [if_pos (.inr (.inr (.inr (.inl (by rw [List.all_cons, show dig 45 = false by decide, Bool.false_and])))))]
theorem pint_large (n most : Int) (h0 : 1099511627776 < n) : pint (Lib.itoa n) most = (0, false) := by
  obtain ⟨k, rfl⟩ := Int.eq_ofNat_of_zero_le (show 0 ≤ n by omega)
  have hi : Lib.itoa (k : Int) = Lib.decDigits k := by unfold Lib.itoa; rw [if_neg (by omega), Int.toNat_natCast]
  rw [hi]
  unfold pint
  by_cases hc : Lib.decDigits k = [] ∨ 14 ≤ (Lib.decDigits k).length ∨ (1 < (Lib.decDigits k).length ∧ (Lib.decDigits k).headD 0 = 48) ∨ (Lib.decDigits k).all dig = false ∨ min most 1099511627776 < (num (Lib.decDigits k) : Int)
  · rw [if_pos hc]
  · exfalso
    simp only [not_or] at hc
    have h5 := hc.2.2.2.2
    rw [(dec_facts k k (Nat.le_refl _)).1] at h5
    omega
end Go.Proofs.YticdpfjajkfheaaDoor

/- What a text is read as as a token: the mathematics. -/
namespace Go.Proofs.YticdpfjajkfheaaDoor
set_option linter.unusedVariables false
open Go Go.RowKit BitM MskM OctM

theorem itoa_no46 (n : Int) (h0 : 0 ≤ n) : (46 : UInt8) ∉ Lib.itoa n := by
  obtain ⟨k, rfl⟩ := Int.eq_ofNat_of_zero_le h0
  have hi : Lib.itoa (k : Int) = Lib.decDigits k := by unfold Lib.itoa; rw [if_neg (by omega), Int.toNat_natCast]
  rw [hi]
  intro hm
  have := List.all_eq_true.1 (dec_facts k k (Nat.le_refl _)).2.1 46 hm
  exact absurd this (by decide)
theorem itoa_not_all (n : Int) (h0 : 0 ≤ n) : Lib.itoa n ≠ [97, 108, 108] := by
  obtain ⟨k, rfl⟩ := Int.eq_ofNat_of_zero_le h0
  have hi : Lib.itoa (k : Int) = Lib.decDigits k := by unfold Lib.itoa; rw [if_neg (by omega), Int.toNat_natCast]
  rw [hi]
  intro hm
  have := List.all_eq_true.1 (dec_facts k k (Nat.le_refl _)).2.1 97 (by rw [hm]; simp)
  exact absurd this (by decide)
/-- The text of a cursor. -/
def curt (c : Int) : List UInt8 := if c = 1073741824 then [97, 108, 108] else Lib.itoa c
theorem tsh_fit {d p s c : Int} (h : tchk d p s c = true) : tsh d p s c = Lib.itoa d ++ 46 :: (Lib.itoa p ++ 46 :: (Lib.itoa s ++ 46 :: curt c)) := by
  unfold tsh
  rw [if_neg (by rw [h]; simp), join_four]
  simp [curt]
theorem tsh_off {d p s c : Int} (h : tchk d p s c = false) : tsh d p s c = [] := by
  unfold tsh
  rw [if_pos h]
theorem curt_no46 (c : Int) (h0 : 0 ≤ c) : (46 : UInt8) ∉ curt c := by
  unfold curt
  split
  · decide
  · exact itoa_no46 c h0
theorem parts_tsh {d p s c : Int} (h : tchk d p s c = true) : parts 46 (tsh d p s c) = [Lib.itoa d, Lib.itoa p, Lib.itoa s, curt c] := by
  have h2 := of_decide_eq_true h
  rw [tsh_fit h, parts_first 46 _ _ (itoa_no46 d (by omega)), parts_first 46 _ _ (itoa_no46 p (by omega)), parts_first 46 _ _ (itoa_no46 s (by omega)), parts_none 46 _ (curt_no46 c (by omega))]
/-- What a part is read as, and the last part. -/
def rx (l : List UInt8) : Int × Bool := pint l 1099511627776
def cx (l : List UInt8) : Int × Bool := if l = [97, 108, 108] then (1073741824, true) else pint l 1099511627776
def ry (l : List UInt8) : Int := if l = [97, 108, 108] then 1073741824 else (pint l 1073741823).1
theorem rx_itoa {n : Int} (h0 : 0 ≤ n) (h1 : n ≤ 1099511627776) : rx (Lib.itoa n) = (n, true) := by
  unfold rx
  rw [pint_most n _ h0 h1, if_pos h1]
theorem cx_curt {c : Int} (h0 : 0 ≤ c) (h1 : c ≤ 1073741824) : cx (curt c) = (c, true) := by
  unfold cx curt
  by_cases hc : c = 1073741824
  · rw [if_pos hc, if_pos rfl, hc]
  · rw [if_neg hc, if_neg (itoa_not_all c h0), pint_most c _ h0 (by omega), if_pos (by omega)]
theorem ry_curt {c : Int} (h0 : 0 ≤ c) (h1 : c ≤ 1073741824) : ry (curt c) = c := by
  unfold ry curt
  by_cases hc : c = 1073741824
  · rw [if_pos hc, if_pos rfl, hc]
  · rw [if_neg hc, if_neg (itoa_not_all c h0), pint_most c _ h0 (by omega), if_pos (by omega)]
abbrev T4 := Int × Int × Int × Int
/-- What the program reads, and what the document. -/
def tpv (l : List UInt8) : T4 × Bool := match parts 46 l with
  | [a, b, c, d] => if ((rx a).2 = true ∧ (rx b).2 = true ∧ (rx c).2 = true ∧ (cx d).2 = true) ∧ tsh (rx a).1 (rx b).1 (rx c).1 (cx d).1 = l then (((rx a).1, (rx b).1, (rx c).1, (cx d).1), true) else ((0, 0, 0, 0), false)
  | _ => ((0, 0, 0, 0), false)
def rpv (l : List UInt8) : T4 × Bool := match parts 46 l with
  | [a, b, c, d] => if l ≠ [] ∧ tsh (pint a 6).1 (rx b).1 (rx c).1 (ry d) = l then (((pint a 6).1, (rx b).1, (rx c).1, ry d), true) else ((0, 0, 0, 0), false)
  | _ => ((0, 0, 0, 0), false)
theorem tpv_tsh {d p s c : Int} (h : tchk d p s c = true) : tpv (tsh d p s c) = ((d, p, s, c), true) := by
  have h2 := of_decide_eq_true h
  unfold tpv
  rw [parts_tsh h]
  simp only
  rw [rx_itoa (n := d) (by omega) (by omega), rx_itoa (n := p) (by omega) (by omega), rx_itoa (n := s) (by omega) (by omega), cx_curt (c := c) (by omega) (by omega)]
  simp
theorem rpv_tsh {d p s c : Int} (h : tchk d p s c = true) : rpv (tsh d p s c) = ((d, p, s, c), true) := by
  have h2 := of_decide_eq_true h
  have hne : tsh d p s c ≠ [] := by rw [tsh_fit h]; simp
  unfold rpv
  rw [parts_tsh h]
  simp only
  rw [pint_most d 6 (by omega) (by omega), if_pos (show d ≤ 6 by omega), rx_itoa (n := p) (by omega) (by omega), rx_itoa (n := s) (by omega) (by omega), ry_curt (c := c) (by omega) (by omega), if_pos ⟨hne, rfl⟩]
theorem tpv_none (l : List UInt8) (h : ∀ d p s c, tchk d p s c = true → tsh d p s c ≠ l) : tpv l = ((0, 0, 0, 0), false) := by
  unfold tpv
  split
  · rename_i a b c d hp
    rw [if_neg]
    rintro ⟨_, he⟩
    cases hk : tchk (rx a).1 (rx b).1 (rx c).1 (cx d).1 with
    | true => exact h _ _ _ _ hk he
    | false =>
      rw [tsh_off hk] at he
      subst he
      simp [parts] at hp
  · rfl
theorem rpv_none (l : List UInt8) (h : ∀ d p s c, tchk d p s c = true → tsh d p s c ≠ l) : rpv l = ((0, 0, 0, 0), false) := by
  unfold rpv
  split
  · rename_i a b c d hp
    rw [if_neg]
    rintro ⟨hne, he⟩
    cases hk : tchk (pint a 6).1 (rx b).1 (rx c).1 (ry d) with
    | true => exact h _ _ _ _ hk he
    | false =>
      rw [tsh_off hk] at he
      exact hne he.symm
  · rfl
theorem rpv_tpv (l : List UInt8) : rpv l = tpv l := by
  by_cases h : ∃ d p s c, tchk d p s c = true ∧ tsh d p s c = l
  · obtain ⟨d, p, s, c, hk, rfl⟩ := h
    rw [tpv_tsh hk, rpv_tsh hk]
  · have h2 : ∀ d p s c, tchk d p s c = true → tsh d p s c ≠ l := fun d p s c hk he => h ⟨d, p, s, c, hk, he⟩
    rw [tpv_none l h2, rpv_none l h2]
theorem tpv_four {l a b c d : List UInt8} (h : parts 46 l = [a, b, c, d]) : tpv l = if ((rx a).2 = true ∧ (rx b).2 = true ∧ (rx c).2 = true ∧ (cx d).2 = true) ∧ tsh (rx a).1 (rx b).1 (rx c).1 (cx d).1 = l then (((rx a).1, (rx b).1, (rx c).1, (cx d).1), true) else ((0, 0, 0, 0), false) := by
  unfold tpv
  rw [h]
theorem rpv_four {l a b c d : List UInt8} (h : parts 46 l = [a, b, c, d]) : rpv l = if l ≠ [] ∧ tsh (pint a 6).1 (rx b).1 (rx c).1 (ry d) = l then (((pint a 6).1, (rx b).1, (rx c).1, ry d), true) else ((0, 0, 0, 0), false) := by
  unfold rpv
  rw [h]
theorem tpv_other {l : List UInt8} (h : (parts 46 l).length ≠ 4) : tpv l = ((0, 0, 0, 0), false) := by
  unfold tpv
  split
  · rename_i hp; rw [hp] at h; exact absurd rfl h
  · rfl
theorem rpv_other {l : List UInt8} (h : (parts 46 l).length ≠ 4) : rpv l = ((0, 0, 0, 0), false) := by
  unfold rpv
  split
  · rename_i hp; rw [hp] at h; exact absurd rfl h
  · rfl
end Go.Proofs.YticdpfjajkfheaaDoor

/- Bytes that are read, not owned: what a drawn region keeps of them; slices.Clone of bytes; a struct's cell among the results. -/
namespace Go.Proofs.YticdpfjajkfheaaDoor
set_option linter.unusedVariables false
open Go Go.RowKit OctM

theorem clone_any (A : Option Addr) (n c : Nat) (l : List UInt8) (w : World) (hn : l.length = n) (hs : Sees w w.heap.size A (bvs l)) (hsz : n ≤ 1048576) :
    Calls Tryd.prog 44 #[.slice A n c] w (GivesBytes w l) := by
  obtain ⟨i0, hi, hz0, hz1, hz2⟩ := oct_parts
  subst hn
  rcases A with _ | ad
  · have hl : l = [] := by
      rcases l with _ | ⟨x, l⟩
      · rfl
      · obtain ⟨b, o, h, _⟩ := hs (by simp [bvs])
        cases h
    subst hl
    have hq := fun wx => Lib.run_eql_slice_nil (P := Tryd.prog) wx 48 5 none 0 c 0 0 Tryd.underlying48
    go_enter Tryd.func44, Tryd.ntmps44
    go_wp2
    go_ret
    exact ⟨none, 0, rfl, Own.nil_ _ _ _, Below.refl _ _⟩
  · have hq := fun wx => Lib.run_eql_slice_nil (P := Tryd.prog) wx 48 5 (some ad) l.length c 0 0 Tryd.underlying48
    go_enter Tryd.func44, Tryd.ntmps44
    go_wp2_with (first
      | (at_builtin
         refine wpList_app _ rfl (.tmp 5) (.tmp 6) _ rfl w.heap.size 5 i0 _ 1 Tryd.underlying48 hi hz0 hz1 hz2 rfl (.slice (some ⟨w.heap.size, 0, none⟩) 0 0) [] 0 rfl rfl (own_lit w w.heap.size 5 #[] (Nat.le_refl _) (by simp [maxLen])) w.heap.size (some ad) c (bvs l) l.length rfl (bvs_length l) (hs.alloc (Nat.le_refl _) _) (bvs_one l) (by simp [maxLen]; omega) (by omega) (by simp) ?_
         intro A1 c1 w1 hown1 hb1 hg1 hat1; simp only [Nat.zero_add, List.nil_append] at hown1 hat1)
      | fail)
    go_ret
    exact ⟨A1, c1, rfl, hown1, ((Below.refl _ _).alloc (Nat.le_refl _) _).trans hb1⟩

def SeesBytes (w : World) (xs : List UInt8) : Ending → World → Prop := fun e w' => ∃ A' c', e = .returned (.slice A' xs.length c') ∧ Sees w' w'.heap.size A' (bvs xs) ∧ Below w.heap.size w w'
def relSee (n : Nat) (l : List UInt8) : Rel where
  rel v w := ∃ A c, v = .slice A n c ∧ Sees w w.heap.size A (bvs l)
  mono := fun v w w' h ⟨A, c, e, hs⟩ => ⟨A, c, e, (hs.below h).more h.size⟩
  real := fun w ⟨A, c, e, _⟩ => by cases e
theorem gives_see {w : World} {xs : List UInt8} {n : Nat} (hn : xs.length = n) {e : Ending} {w' : World} (h : GivesBytes w xs e w') : ∃ v, e = .returned v ∧ Below w.heap.size w w' ∧ (relSee n xs).rel v w' := by
  obtain ⟨A, c, rfl, ho, hb⟩ := h
  subst hn
  exact ⟨_, rfl, hb, A, c, rfl, ho.sees⟩
theorem assign_gives {P : Program} {a : Act} {op : Oper} (R : Rel) (x : Operand) (ho : op.op = .assign x) (w : World) (h : R.rel (a.eval x) w) : gives P op a R.rel w := by
  unfold gives execOp
  simp only [ho]
  exact ⟨Le.refl w, h⟩
theorem results_rows_tmp {P : Program} {fn : Func} {p q : Tmp} {ty : TypeId} (h : fn.results = #[.cell q ty, .tmp p]) (tmps : Array Value) (w : World) (g : Nat) (cs : List Value) (d : TypeDesc) (v : Value) (hp : tmps.getD p undef = v)
    (hq : tmps.getD q undef = .pointer (some ⟨g, 0, none⟩)) (hB : Blk w g cs)
    (hu : P.underlying ty = some d) (hd : (match d with | .struct _ | .array _ _ => true | _ => false) = true) (hi : (P.info? ty).map (·.size) = some cs.length) :
    (results fn tmps).run P w = .ok (.tuple #[.agg cs.toArray, v]) w := by
  obtain ⟨t, hB⟩ := hB
  subst hp
  have hq' : tmps[q]?.getD undef = .pointer (some ⟨g, 0, none⟩) := by simpa using hq
  simp [results, h, hq', asAddr, run_loadVar_row w g t ty cs.toArray (0, 0) d hB hu hd (by simpa using hi)]
end Go.Proofs.YticdpfjajkfheaaDoor

/- The document's texts of masks, and the mask of a text: what each returns. -/
namespace Go.Proofs.YticdpfjajkfheaaDoor
set_option linter.unusedVariables false
open Go Go.RowKit BitM MskM

def bshT (x : BitVec 32) : List UInt8 := if lst x 32 = [] then [45] else Lib.join ((lst x 32).map fun n : Int => MskM.tok n.toNat) [44]
theorem low_mem {x : BitVec 32} (h : x.toNat < 256) {n : Int} (hn : n ∈ lst x 32) : 0 ≤ n ∧ n < 8 := by
  obtain ⟨h0, h1, h2⟩ := (mem_lst x 32 n).1 hn
  obtain ⟨k, rfl⟩ := Int.eq_ofNat_of_zero_le h0
  have hk : k < 32 := by omega
  rw [has_in x hk, BitVec.getLsbD] at h2
  refine ⟨h0, ?_⟩
  by_cases h8 : k < 8
  · omega
  · exfalso
    have : x.toNat < 2 ^ k := Nat.lt_of_lt_of_le (by omega : x.toNat < 2 ^ 8) (Nat.pow_le_pow_right (by omega) (by omega))
    rw [Nat.testBit_lt_two_pow this] at h2
    cases h2
theorem bsh_low {x : BitVec 32} (h : x.toNat < 256) : bsh x = bshT x := by
  unfold bsh bshT
  have : (lst x 32).map Lib.itoa = (lst x 32).map fun n : Int => MskM.tok n.toNat := List.map_congr_left fun n hn => by
    obtain ⟨h0, h8⟩ := low_mem h hn
    obtain ⟨k, rfl⟩ := Int.eq_ofNat_of_zero_le h0
    rw [itoa_tok (by omega), Int.toNat_natCast]
  rw [this]
theorem bsh_fin : ∀ m, m < 256 → bshT (BitVec.ofNat 32 m) = mtx m ∧ (m ≠ 0 → bshT (BitVec.ofNat 32 m) ++ [44, 108] = mtx (m + 256)) := by decide +kernel
theorem has8 {x : BitVec 32} (h : x.toNat < 512) : has x 8 = decide (256 ≤ x.toNat) := by
  have := has_in x (k := 8) (by omega)
  rw [show ((8 : Nat) : Int) = 8 from rfl] at this
  rw [this, BitVec.getLsbD, Nat.testBit_eq_decide_div_mod_eq, decide_eq_decide]
  omega

end Go.Proofs.YticdpfjajkfheaaDoor

/- The document's mask of a text: what it returns. -/
namespace Go.Proofs.YticdpfjajkfheaaDoor
set_option linter.unusedVariables false
open Go Go.RowKit BitM MskM

/-- What a mask's text is read as. -/
def mout (t : List UInt8) : Nat × Bool := match mrd t with
  | some m => (m, true)
  | none => (0, false)

end Go.Proofs.YticdpfjajkfheaaDoor

/- mask.Show: what it returns; strings.Join of texts of the call's own. -/
namespace Go.Proofs.YticdpfjajkfheaaDoor
set_option linter.unusedVariables false
open Go Go.RowKit BitM MskM

/-- Texts as the model's values. -/
def svs (l : List (List UInt8)) : List Value := l.map fun p => .string (str p)
theorem svs_length (l : List (List UInt8)) : (svs l).length = l.length := by simp [svs]
theorem svs_append (a b : List (List UInt8)) : svs (a ++ b) = svs a ++ svs b := by simp [svs]
theorem svs_one (l : List (List UInt8)) : ∀ u ∈ svs l, u.oneCell' = true := by
  intro u hu
  simp [svs] at hu
  obtain ⟨c, _, rfl⟩ := hu
  rfl
theorem info_str : (Tryd.prog.info? 9).map (fun i => (i.zero, i.size, i.bytes)) = some (some (.string ⟨#[]⟩), 1, 16) := by kernel_rfl
theorem join_any (g c n base : Nat) (ps : List (List UInt8)) (w : World) (hn : ps.length = n) (hown : Own w base 9 (.slice (some ⟨g, 0, none⟩) n c) (svs ps)) (hp : 0 < n) (hlen : (Lib.join ps [44]).length ≤ 140737488355328) (hm : n ≤ 65536) :
    Calls Tryd.prog 48 #[.slice (some ⟨g, 0, none⟩) n c, .string { data := #[44] }] w fun e w' => e = .returned (.string (str (Lib.join ps [44]))) ∧ Below w.heap.size w w' := by
  have hxs : (ps.map str).map (·.data.toList) = ps := by
    rw [List.map_map]
    have : ((fun x : ByteArray => x.data.toList) ∘ str) = id := by funext p; rfl
    rw [this, List.map_id]
  have hlen' : (ps.map str).length = n := by rw [List.length_map, hn]
  have h := Tryd.strings_Join g 0 c (ps.map str) { data := #[44] } w (fun j x hj => by
    have hjl : j < ps.length := by
      rcases Nat.lt_or_ge j ps.length with h | h
      · exact h
      · rw [List.getElem?_eq_none (by simpa using h)] at hj; cases hj
    rw [Nat.zero_add, hown.cell j (by rw [svs_length]; exact hjl)]
    rw [List.getElem?_map, List.getElem?_eq_getElem hjl] at hj
    simp only [Option.map_some, Option.some.injEq] at hj
    simp [svs, hj]) (by obtain ⟨g', h1, h2, h3⟩ := hown.block hp; injection h1 with h1; injection h1 with h1; omega) (by omega) (by rw [hlen']; exact hown.cap.1) (by rw [hxs]; exact hlen)
  rw [hlen', hxs] at h
  exact h
theorem toks_fin : ∀ m, m < 512 → ((lst (BitVec.ofNat 32 m &&& 255#32) 32).map fun n : Int => MskM.tok n.toNat) ++ (if has (BitVec.ofNat 32 m) 8 then [[108]] else []) = toks m := by decide +kernel
theorem toks_flds (x : BitVec 32) (h : x.toNat < 512) : (flds x).map Lib.itoa ++ (if has x 8 then [[108]] else []) = toks x.toNat := by
  have h1 := toks_fin x.toNat h
  rw [BitVec.ofNat_toNat, BitVec.setWidth_eq] at h1
  rw [← h1]
  congr 1
  refine List.map_congr_left fun n hn => ?_
  obtain ⟨h0, h8, _⟩ := (mem_flds x n).1 hn
  obtain ⟨k, rfl⟩ := Int.eq_ofNat_of_zero_le h0
  rw [itoa_tok (by omega), Int.toNat_natCast]
theorem mtx_len : ∀ m, m < 512 → (mtx m).length ≤ 17 := by decide +kernel
theorem toks_pos : ∀ m, m < 512 → m ≠ 0 → 0 < (toks m).length := by decide +kernel

end Go.Proofs.YticdpfjajkfheaaDoor

/- Tokens: what a text is read as, by the program. -/
namespace Go.Proofs.YticdpfjajkfheaaDoor
set_option linter.unusedVariables false
open Go Go.RowKit BitM MskM OctM

def tq (q : T4) : List Value := tks q.1 q.2.1 q.2.2.1 q.2.2.2
/-- What the k-th part is read as. -/
def fx (k : Nat) (l : List UInt8) : Int × Bool := if k = 3 then cx l else rx l
theorem four_list {α : Type} {l : List α} (h : l.length = 4) : ∃ a b c d, l = [a, b, c, d] := by
  match l, h with
  | [a, b, c, d], _ => exact ⟨a, b, c, d, rfl⟩
/-- The array's cells behind k rounds. -/
def na (v : Nat → Int) (k : Nat) : List Value := [.int .i64 (if 0 < k then v 0 else 0), .int .i64 (if 1 < k then v 1 else 0), .int .i64 (if 2 < k then v 2 else 0), .int .i64 (if 3 < k then v 3 else 0)]
theorem na_set (v : Nat → Int) (k : Nat) (hk : k < 4) : (na v k).set k (.int .i64 (v k)) = na v (k + 1) := by
  match k, hk with
  | 0, _ => rfl
  | 1, _ => rfl
  | 2, _ => rfl
  | 3, _ => rfl
theorem na_get (v : Nat → Int) (k : Nat) (hk : k < 4) : (na v k)[k]? = some (.int .i64 0) := by
  match k, hk with
  | 0, _ => rfl
  | 1, _ => rfl
  | 2, _ => rfl
  | 3, _ => rfl

set_option maxRecDepth 100000 in
set_option maxHeartbeats 3200000 in
theorem tparse_any (t : ByteArray) (mm : Int) (w : World) (hs : t.size < 4294967281) (hmm : w.cell? ⟨0, 0, none⟩ = some (.int .i64 mm)) (ht : Tab w) :
    Calls Tryd.prog 15 #[.string t] w fun e w' => e = .returned (.tuple #[.agg (tq (tpv t.data.toList).1).toArray, .bool (tpv t.data.toList).2]) ∧ Below w.heap.size w w' := by
  have hu := Tryd.underlying42
  have B := Blk.new w (tks 0 0 0 0) 42
  have hb := (Below.refl w.heap.size w).alloc (Nat.le_refl _) (.cells (tks 0 0 0 0).toArray 42)
  have HSP := Lib.hid (fun (wx : World) (hx : Below w.heap.size w wx) => Tryd.strings_Split t { data := #[46] } mm wx hs (max_later (B := 0) hmm hx) (by decide))
  have HTS := Lib.hid (fun (q : T4) (wx : World) (hx : Below w.heap.size w wx) => (show Calls Tryd.prog 25 #[.agg (tq q).toArray] wx fun e w' => e = .returned (.string (str (tsh q.1 q.2.1 q.2.2.1 q.2.2.2))) ∧ Below wx.heap.size wx w' from tshow_any q.1 q.2.1 q.2.2.1 q.2.2.2 wx (ht.later hx)))
  have HD := Lib.hid (split_data 46 t)
  have hcl : Lib.countB t { data := #[46] } ≤ t.size := Lib.countB_le _ (by decide) _ t (Nat.le_refl _)
  have HLN : Hid ((Lib.splitB { data := #[46] } 0 (Lib.countB t { data := #[46] }) t).length = Lib.countB t { data := #[46] } + 1) := Lib.hid (Lib.splitB_all _ (by decide) 0 _ t rfl)
  obtain ⟨ps, hps⟩ : ∃ ps, ps = Lib.splitB { data := #[46] } 0 (Lib.countB t { data := #[46] }) t := ⟨_, rfl⟩
  rw [← hps] at HSP HD HLN
  obtain ⟨q, hq⟩ : ∃ q, q = Lib.countB t { data := #[46] } := ⟨_, rfl⟩
  rw [← hq] at HSP HLN hcl
  have hTL : t = str t.data.toList := (str_eta t).symm
  have hq1 : q + 1 ≤ 4294967281 := by omega
  obtain ⟨L, hL⟩ : ∃ L, L = t.data.toList := ⟨_, rfl⟩
  rw [← hL] at HD hTL ⊢
  have HTL := Lib.hid hTL
  clear hps hq hs hmm hcl hL hTL ht
  have TR := B.there 0 4 (Nat.le_refl _)
  have O0 := tks_one 0 0 0 0
  have FIN := B.wholeT (ds := tks 0 0 0 0) rfl
  go_enter Tryd.func15, Tryd.ntmps15
  go_wp2_with fail
  refine (HSP.out _ hb).mono ?_
  rintro e w1 ⟨rfl, hw1⟩
  have hs1 : (w.alloc (.cells (tks 0 0 0 0).toArray 42)).heap.size = w.heap.size + 1 := by simp
  have BP : Blk w1 (w.heap.size + 1) (ps.map Value.string) := by
    rw [hw1]
    have h := Blk.new (w.alloc (.cells (tks 0 0 0 0).toArray 42)) (ps.map Value.string) 9
    rw [hs1] at h
    exact h
  have B1 : Blk w1 w.heap.size (tks 0 0 0 0) := by rw [hw1]; exact B.alloc _
  have hb1 : Below w.heap.size w w1 := by rw [hw1]; exact hb.alloc (by simp) _
  have hz1 : w1.heap.size = w.heap.size + 2 := by rw [hw1]; simp
  rw [hs1]
  clear hw1 hs1 FIN TR B hb HSP
  have T1 := B1.there 0 4 (Nat.le_refl _)
  have F1 := B1.wholeT (ds := tks 0 0 0 0) rfl
  have G1 := below_sets (Nat.le_refl w.heap.size) (tks 0 0 0 0) 0 hb1
  by_cases h4 : q + 1 = 4
  · obtain rfl : q = 3 := by omega
    have d4 : (((3 : Nat) : Int) + 1 == 4) = true := rfl
    obtain ⟨a, b, c, d, rfl⟩ := four_list HLN.out
    have HPT : Hid (parts 46 L = [a.data.toList, b.data.toList, c.data.toList, d.data.toList]) := Lib.hid HD.out.symm
    obtain ⟨V, hV⟩ : ∃ V : Nat → Int × Bool, V = fun k => fx k ([a.data.toList, b.data.toList, c.data.toList, d.data.toList].getD k []) := ⟨_, rfl⟩
    have HT4 : Hid (tpv L = if ((V 0).2 = true ∧ (V 1).2 = true ∧ (V 2).2 = true ∧ (V 3).2 = true) ∧ tsh (V 0).1 (V 1).1 (V 2).1 (V 3).1 = L then (((V 0).1, (V 1).1, (V 2).1, (V 3).1), true) else ((0, 0, 0, 0), false)) := Lib.hid (by rw [tpv_four HPT.out, hV]; rfl)
    have BA := Blk.new w1 [.int .i64 0, .int .i64 0, .int .i64 0, .int .i64 0] 75
    have BP1 := BP.alloc (.cells [.int .i64 0, .int .i64 0, .int .i64 0, .int .i64 0].toArray 75)
    have B2 := B1.alloc (.cells [.int .i64 0, .int .i64 0, .int .i64 0, .int .i64 0].toArray 75)
    have hb2 := hb1.alloc hb1.size (.cells [.int .i64 0, .int .i64 0, .int .i64 0, .int .i64 0].toArray 75)
    rw [hz1] at BA
    have hz2 : (w1.alloc (.cells [.int .i64 0, .int .i64 0, .int .i64 0, .int .i64 0].toArray 75)).heap.size = w.heap.size + 3 := by simp [hz1]
    have HI := Lib.hid (fun (p : ByteArray) (wx : World) => (show Calls Tryd.prog 41 #[.string p, .int .i64 1099511627776] wx fun e w' => e = .returned (.tuple #[.int .i64 (rx p.data.toList).1, .bool (rx p.data.toList).2]) ∧ wx = w' from int_any p 1099511627776 wx))
    have HVX : Hid (∀ k, k < 4 → ∃ p : ByteArray, ([a, b, c, d].map Value.string)[k]? = some (.string p) ∧ V k = fx k p.data.toList) := Lib.hid (fun k hk => by
      rw [hV]
      match k, hk with
      | 0, _ => exact ⟨a, rfl, rfl⟩
      | 1, _ => exact ⟨b, rfl, rfl⟩
      | 2, _ => exact ⟨c, rfl, rfl⟩
      | 3, _ => exact ⟨d, rfl, rfl⟩)
    clear HD HLN hq1 BP B1 hb1 T1 F1 G1 hV
    go_wp2_with fail
    clear hz1
    generalize w1.alloc (.cells [.int .i64 0, .int .i64 0, .int .i64 0, .int .i64 0].toArray 75) = w2 at BA BP1 B2 hb2 hz2 ⊢
    replace BA : Blk w2 (w.heap.size + 2) (na (fun k => (V k).1) 0) := BA
    obtain ⟨PS, hPS⟩ : ∃ PS, PS = [a, b, c, d].map Value.string := ⟨_, rfl⟩
    rw [← hPS] at BP1 HVX
    clear hPS
    go_loopw [16] (fun i wr => ∃ k : Nat, k ≤ 4 ∧ i = .int .i64 k ∧ Blk wr w.heap.size (tks 0 0 0 0) ∧ Blk wr (w.heap.size + 1) PS ∧ Blk wr (w.heap.size + 2) (na (fun k => (V k).1) k) ∧ Hid (∀ j, j < k → (V j).2 = true) ∧ Below w.heap.size w wr ∧ wr.heap.size = w.heap.size + 3) (fun i _ => 4 - (intOf i).toNat)
    case atStart => exact ⟨0, by omega, rfl, B2, BP1, BA, Lib.hid (fun j hj => absurd hj (Nat.not_lt_zero j)), hb2, hz2⟩
    case round =>
      obtain ⟨k, hk, rfl, D0, D1, D2, HV, hbr, hzr⟩ := hrel
      clear BA BP1 B2 hb2 hz2
      by_cases hlt : k < 4
      · obtain ⟨p, hp, hv⟩ := HVX.out k hlt
        have hc := D1.cell hp
        have dk : (k : Int) < 4 := by omega
        have hcn := D2.cell (na_get (fun k => (V k).1) k hlt)
        have hfn := D2.frozen k
        have HVK := Lib.hid hv
        have N2 := D2.set k (.int .i64 (V k).1)
        rw [na_set (fun k => (V k).1) k hlt] at N2
        have N0 := D0.setOther (b := w.heap.size + 2) k (.int .i64 (V k).1) (by omega)
        have N1 := D1.setOther (b := w.heap.size + 2) k (.int .i64 (V k).1) (by omega)
        have NB := hbr.setCell (p := ⟨w.heap.size + 2, k, none⟩) (by simp) (.int .i64 (V k).1)
        have NZ : (wr.setCell ⟨w.heap.size + 2, k, none⟩ (.int .i64 (V k).1)).heap.size = w.heap.size + 3 := by rw [size_setCell', hzr]
        have T1 := D0.there 0 4 (Nat.le_refl _)
        have F1 := D0.wholeT (ds := tks 0 0 0 0) rfl
        have G1 := below_sets (Nat.le_refl w.heap.size) (tks 0 0 0 0) 0 hbr
        have HIp := Lib.hid (HI.out p)
        have HBAD : Hid ((V k).2 = false → tpv L = ((0, 0, 0, 0), false)) := Lib.hid (fun hf => by
          rw [HT4.out, if_neg]
          rintro ⟨⟨h0, h1, h2, h3⟩, _⟩
          match k, hlt with
          | 0, _ => rw [h0] at hf; cases hf
          | 1, _ => rw [h1] at hf; cases hf
          | 2, _ => rw [h2] at hf; cases hf
          | 3, _ => rw [h3] at hf; cases hf)
        have HVN' : Hid ((V k).2 = true → Hid (∀ j, j < k + 1 → (V j).2 = true)) := Lib.hid (fun hf => Lib.hid (fun j hj => by
          rcases Nat.lt_succ_iff_lt_or_eq.1 hj with h | h
          · exact HV.out j h
          · rw [h]; exact hf))
        obtain ⟨y, hy⟩ : ∃ y, y = rx p.data.toList := ⟨_, rfl⟩
        rw [← hy] at HIp
        clear hp
        by_cases h3 : k = 3
        · subst h3
          have e3 : fx 3 p.data.toList = cx p.data.toList := rfl
          by_cases ha : p.data.toList = [97, 108, 108]
          · have hv3 : V 3 = (1073741824, true) := by rw [hv, e3]; unfold cx; rw [if_pos ha]
            have ea : p.toList = [97, 108, 108] := by rw [ByteArray.toList_eq]; exact ha
            have HVN := Lib.hid (HVN'.out (by rw [hv3]))
            simp only [hv3] at N0 N1 N2 NB NZ
            obtain ⟨y1, y2⟩ := y
            simp only at HIp
            clear ha hv e3 hv3 hy HBAD HVN'
            go_wp2_with fail
            refine (HIp.out _).mono ?_
            rintro e w3 ⟨rfl, rfl⟩
            go_wp2_with fail
            go_roundw
            case rel => exact ⟨3 + 1, by omega, by go_num, N0, N1, N2, HVN.out, NB, NZ⟩
            case measure => simp [intOf]
          · have hv3 : V 3 = y := by rw [hv, e3, hy]; unfold cx; rw [if_neg ha]; rfl
            have ea : (p.toList == [97, 108, 108]) = false := by rw [ByteArray.toList_eq, beq_eq_false_iff_ne]; exact ha
            simp only [hv3] at N0 N1 N2 NB NZ HBAD HVN'
            clear ha hv e3 hv3 hy
            obtain ⟨y1, y2⟩ := y
            simp only at HIp HBAD HVN' N0 N1 N2 NB NZ
            cases y2
            · have HX := Lib.hid (HBAD.out rfl)
              clear N0 N1 N2 NB NZ
              go_wp2_with fail
              refine (HIp.out _).mono ?_
              rintro e w3 ⟨rfl, rfl⟩
              go_wp2_with (first
                | (refine wpList_store_mid rfl 42 (.tmp 2) (.tmp 38) rfl w.heap.size 0 (tks 0 0 0 0).toArray rfl rfl T1 info_tok O0 ?_)
                | fail)
              exact bodyPost_ret (v := .tuple #[.agg (tks 0 0 0 0).toArray, .bool false]) (results_rows_tmp (q := 2) (p := 3) rfl _ _ w.heap.size _ _ _ rfl rfl F1 hu rfl info_tok) rfl ⟨by rw [HX.out]; rfl, G1⟩
            · have HVN := Lib.hid (HVN'.out rfl)
              go_wp2_with fail
              refine (HIp.out _).mono ?_
              rintro e w3 ⟨rfl, rfl⟩
              go_wp2_with fail
              go_roundw
              case rel => exact ⟨3 + 1, by omega, by go_num, N0, N1, N2, HVN.out, NB, NZ⟩
              case measure => simp [intOf]
        · have hvk : V k = y := by rw [hv, hy]; unfold fx; rw [if_neg h3]
          have dk3 : ((k : Int) == 3) = false := by simp; omega
          simp only [hvk] at N0 N1 N2 NB NZ HBAD HVN'
          clear hv hvk hy h3
          obtain ⟨y1, y2⟩ := y
          simp only at HIp HBAD HVN' N0 N1 N2 NB NZ
          cases y2
          · have HX := Lib.hid (HBAD.out rfl)
            clear N0 N1 N2 NB NZ
            go_wp2_with fail
            refine (HIp.out _).mono ?_
            rintro e w3 ⟨rfl, rfl⟩
            go_wp2_with (first
              | (refine wpList_store_mid rfl 42 (.tmp 2) (.tmp 38) rfl w.heap.size 0 (tks 0 0 0 0).toArray rfl rfl T1 info_tok O0 ?_)
              | fail)
            exact bodyPost_ret (v := .tuple #[.agg (tks 0 0 0 0).toArray, .bool false]) (results_rows_tmp (q := 2) (p := 3) rfl _ _ w.heap.size _ _ _ rfl rfl F1 hu rfl info_tok) rfl ⟨by rw [HX.out]; rfl, G1⟩
          · have HVN := Lib.hid (HVN'.out rfl)
            go_wp2_with fail
            refine (HIp.out _).mono ?_
            rintro e w3 ⟨rfl, rfl⟩
            go_wp2_with fail
            go_roundw
            case rel => exact ⟨k + 1, by omega, by go_num, N0, N1, N2, HVN.out, NB, NZ⟩
            case measure => simp [intOf]; omega
      · obtain rfl : k = 4 := by omega
        have H0 := HV.out 0 (by omega)
        have H1 := HV.out 1 (by omega)
        have H2 := HV.out 2 (by omega)
        have H3 := HV.out 3 (by omega)
        obtain ⟨v0, hv0⟩ : ∃ z, z = (V 0).1 := ⟨_, rfl⟩
        obtain ⟨v1, hv1⟩ : ∃ z, z = (V 1).1 := ⟨_, rfl⟩
        obtain ⟨v2, hv2⟩ : ∃ z, z = (V 2).1 := ⟨_, rfl⟩
        obtain ⟨v3, hv3⟩ : ∃ z, z = (V 3).1 := ⟨_, rfl⟩
        have E2 : Blk wr (w.heap.size + 2) [.int .i64 v0, .int .i64 v1, .int .i64 v2, .int .i64 v3] := by rw [hv0, hv1, hv2, hv3]; exact D2
        have a0 := E2.cell (j := 0) rfl
        have a1 := E2.cell (j := 1) rfl
        have a2 := E2.cell (j := 2) rfl
        have a3 := E2.cell (j := 3) rfl
        have HT5 : Hid (tpv L = if tsh v0 v1 v2 v3 = L then ((v0, v1, v2, v3), true) else ((0, 0, 0, 0), false)) := Lib.hid (by rw [HT4.out, hv0, hv1, hv2, hv3]; simp only [H0, H1, H2, H3, true_and, and_self])
        have HSH := Lib.hid (HTS.out (v0, v1, v2, v3))
        simp only at HSH
        obtain ⟨sv, hsv⟩ : ∃ z, z = str (tsh v0 v1 v2 v3) := ⟨_, rfl⟩
        rw [← hsv] at HSH
        obtain ⟨g3, hg3⟩ : ∃ z, z = wr.heap.size := ⟨_, rfl⟩
        have hne3 : g3 ≠ w.heap.size := by omega
        have hle3 : w.heap.size ≤ g3 := by omega
        have NB := Blk.new wr (tks 0 0 0 0) 42
        rw [← hg3] at NB
        have M0 := D0.alloc (.cells (tks 0 0 0 0).toArray 42)
        have mb := hbr.alloc hbr.size (.cells (tks 0 0 0 0).toArray 42)
        have TN := NB.there 0 4 (Nat.le_refl _)
        have XN := NB.wholeT (ds := tks v0 v1 v2 v3) rfl
        have X0 := M0.setsOther (b := g3) hne3 (tks v0 v1 v2 v3) 0
        have XB := below_sets (b := g3) hle3 (tks v0 v1 v2 v3) 0 mb
        have ON := tks_one v0 v1 v2 v3
        have HG3 := Lib.hid hg3
        clear D0 D1 D2 E2 hbr H0 H1 H2 H3 hv0 hv1 hv2 hv3 NB M0 mb HV hzr hg3
        by_cases heq : tsh v0 v1 v2 v3 = L
        · have hst : sv = t := by rw [hsv, HTL.out, heq]
          subst hst
          have HX : Hid (tpv L = ((v0, v1, v2, v3), true)) := Lib.hid (by rw [HT5.out, if_pos heq])
          clear heq hsv HT5 HTL
          go_wp2_with (first
            | (rw [← HG3.out]
               refine wpList_store_mid rfl 42 (.tmp 9) (.tmp 51) rfl g3 0 (tks v0 v1 v2 v3).toArray rfl rfl TN info_tok ON ?_
               simp only [Act.put]
               generalize hw5 : World.setCells _ g3 0 (tks v0 v1 v2 v3).toArray.toList = w5
               have XN' : Blk w5 g3 (tks v0 v1 v2 v3) := hw5 ▸ XN
               have X0' : Blk w5 w.heap.size (tks 0 0 0 0) := hw5 ▸ X0
               have XB' : Below w.heap.size w w5 := hw5 ▸ XB
               have RG := XN'.range 0 (tks v0 v1 v2 v3) rfl
               clear a0 a1 a2 a3 TN XN X0 XB hw5 ON)
            | (refine wpList_load_mid rfl 42 (.tmp 9) rfl g3 0 rfl (tks v0 v1 v2 v3) _ RG hu rfl info_tok ?_)
            | fail)
          refine (HSH.out _ XB').mono ?_
          rintro e w6 ⟨rfl, hb6⟩
          replace X0 := X0'.later hb6
          replace XB := XB'.trans (hb6.mono XB'.size)
          have T6 := X0.there 0 4 (Nat.le_refl _)
          have F6 := X0.wholeT (ds := tks v0 v1 v2 v3) rfl
          have G6 := below_sets (Nat.le_refl w.heap.size) (tks v0 v1 v2 v3) 0 XB
          replace RG := (XN'.later hb6).range 0 (tks v0 v1 v2 v3) rfl
          have ON6 := tks_one v0 v1 v2 v3
          go_wp2_with (first
            | (refine wpList_load_mid rfl 42 (.tmp 9) rfl g3 0 rfl (tks v0 v1 v2 v3) _ RG hu rfl info_tok ?_)
            | (refine wpList_store_mid rfl 42 (.tmp 2) (.tmp 57) rfl w.heap.size 0 (tks v0 v1 v2 v3).toArray rfl rfl T6 info_tok ON6 ?_)
            | fail)
          exact bodyPost_ret (v := .tuple #[.agg (tks v0 v1 v2 v3).toArray, .bool true]) (results_rows_tmp (q := 2) (p := 3) rfl _ _ w.heap.size _ _ _ rfl rfl F6 hu rfl info_tok) rfl ⟨by rw [HX.out]; rfl, G6⟩
        · have hne : (sv.toList == t.toList) = false := by
            rw [beq_eq_false_iff_ne, ByteArray.toList_eq, ByteArray.toList_eq, hsv, HTL.out]
            exact heq
          have hne2 : (sv.toList != t.toList) = true := by rw [bne, hne]; rfl
          have HX : Hid (tpv L = ((0, 0, 0, 0), false)) := Lib.hid (by rw [HT5.out, if_neg heq])
          clear heq hsv HT5
          go_wp2_with (first
            | (rw [← HG3.out]
               refine wpList_store_mid rfl 42 (.tmp 9) (.tmp 51) rfl g3 0 (tks v0 v1 v2 v3).toArray rfl rfl TN info_tok ON ?_
               simp only [Act.put]
               generalize hw5 : World.setCells _ g3 0 (tks v0 v1 v2 v3).toArray.toList = w5
               have XN' : Blk w5 g3 (tks v0 v1 v2 v3) := hw5 ▸ XN
               have X0' : Blk w5 w.heap.size (tks 0 0 0 0) := hw5 ▸ X0
               have XB' : Below w.heap.size w w5 := hw5 ▸ XB
               have RG := XN'.range 0 (tks v0 v1 v2 v3) rfl
               clear a0 a1 a2 a3 TN XN X0 XB hw5 ON)
            | (refine wpList_load_mid rfl 42 (.tmp 9) rfl g3 0 rfl (tks v0 v1 v2 v3) _ RG hu rfl info_tok ?_)
            | fail)
          refine (HSH.out _ XB').mono ?_
          rintro e w6 ⟨rfl, hb6⟩
          replace X0 := X0'.later hb6
          replace XB := XB'.trans (hb6.mono XB'.size)
          have T6 := X0.there 0 4 (Nat.le_refl _)
          have F6 := X0.wholeT (ds := tks 0 0 0 0) rfl
          have G6 := below_sets (Nat.le_refl w.heap.size) (tks 0 0 0 0) 0 XB
          clear RG
          go_wp2_with (first
            | (refine wpList_store_mid rfl 42 (.tmp 2) (.tmp 56) rfl w.heap.size 0 (tks 0 0 0 0).toArray rfl rfl T6 info_tok O0 ?_)
            | fail)
          exact bodyPost_ret (v := .tuple #[.agg (tks 0 0 0 0).toArray, .bool false]) (results_rows_tmp (q := 2) (p := 3) rfl _ _ w.heap.size _ _ _ rfl rfl F6 hu rfl info_tok) rfl ⟨by rw [HX.out]; rfl, G6⟩
  · have d4 : ((q : Int) + 1 == 4) = false := by simp; omega
    have HX : Hid (tpv L = ((0, 0, 0, 0), false)) := Lib.hid (tpv_other (by rw [← HD.out, List.length_map, HLN.out]; exact h4))
    clear h4 BP B1 hb1 hz1
    go_wp2_with (first
      | (refine wpList_store_mid rfl 42 (.tmp 2) (.tmp 15) rfl w.heap.size 0 (tks 0 0 0 0).toArray rfl rfl T1 info_tok O0 ?_)
      | fail)
    exact bodyPost_ret (v := .tuple #[.agg (tks 0 0 0 0).toArray, .bool false]) (results_rows_tmp (q := 2) (p := 3) rfl _ _ w.heap.size _ _ _ rfl rfl F1 hu rfl info_tok) rfl ⟨by rw [HX.out]; rfl, G1⟩
end Go.Proofs.YticdpfjajkfheaaDoor
