/- Layer 3: what the chapter's example says; BitsBack's and BitsTexts' walks. -/
import Derived.Test.YtgdidamjgaegkaaDoorSetJ
import Derived.Test.YtgdidamjgaegkaaDoorTab
namespace Go.Proofs.YtgdidamjgaegkaaDoor
set_option linter.unusedVariables false
open Go Go.RowKit BitM MskM

theorem tab_of5 {W : World} (h : laidMetH Tryd.prog Rows.bitsBackRow.laid W) : Tab W := by
  have h1 : laidMet Tryd.prog Rows.bitsBackRow.laid W := h
  have h2 := h1.filter (fun x => x.1 == "internal/strconv.uint64pow10")
  have e : (Rows.bitsBackRow.laid.filter fun x => x.1 == "internal/strconv.uint64pow10") = [("internal/strconv.uint64pow10", Lib.tabData .u64 Lib.pow10Tab)] := by kernel_rfl
  rw [e] at h2
  obtain ⟨g, hg, hty⟩ := pow_at
  exact Lib.tabIs_of_head hg hty Tryd.underlying114 Tryd.underlying99 (by kernel_rfl) (by kernel_rfl) h2

theorem baw_any (w : World) : Calls Tryd.prog 13 #[] w fun e w' => e = .returned (.bool true) ∧ Below w.heap.size w w' := by
  have HR := Lib.hid (fun wx : World => (show Calls Tryd.prog 28 #[.string { data := #[51, 44, 48] }] wx fun e w' => e = .returned (.tuple #[.int .u32 0, .bool false]) ∧ Below wx.heap.size wx w' from by
    have h := sread_any { data := #[51, 44, 48] } wx (by decide)
    have e : prd (({ data := #[51, 44, 48] } : ByteArray).data.toList) = (0#32, false) := by decide +kernel
    rw [e] at h
    exact h))
  have HS := Lib.hid (fun wx : World => (show Calls Tryd.prog 32 #[.int .u32 41] wx fun e w' => e = .returned (.string { data := #[48, 44, 51, 44, 53] }) ∧ Below wx.heap.size wx w' from by
    have h := show_any 41#32 wx
    have e : bsh 41#32 = [48, 44, 51, 44, 53] := by decide +kernel
    rw [e] at h
    exact h))
  have hb := Below.refl w.heap.size w
  go_enter Tryd.func13, Tryd.ntmps13
  go_wp2_with fail
  refine (HR.out _).mono ?_
  rintro e w ⟨rfl, hb1⟩
  replace hb := hb.trans (hb1.mono hb.size)
  clear hb1
  go_wp2_with fail
  refine (HS.out _).mono ?_
  rintro e w ⟨rfl, hb1⟩
  replace hb := hb.trans (hb1.mono hb.size)
  clear hb1
  go_wp2_with fail
  go_ret
  exact ⟨rfl, hb⟩

theorem bsh_size (x : BitVec 32) : (str (bsh x)).size ≤ 1000 := by
  rw [str_size]
  unfold bsh
  split
  · simp
  · have h1 := join_small (lst x 32) (lst_mem x 32 (by omega))
    have h2 := lst_len x 32
    omega
theorem prd_bsh (x : BitVec 32) : prd (bsh x) = (x, true) := by
  by_cases hx : lst x 32 = []
  · have h0 : x = 0#32 := by rw [← ofl_lst x, hx]; rfl
    subst h0
    decide +kernel
  · have hb : bsh x = Lib.join ((lst x 32).map Lib.itoa) [44] := by unfold bsh; rw [if_neg hx]
    have hp : parts 44 (bsh x) = (lst x 32).map Lib.itoa := by
      rw [hb]
      refine parts_join _ (by simpa using hx) ?_
      intro p hm
      obtain ⟨n, hn, rfl⟩ := List.mem_map.1 hm
      exact itoa_no44 n (lst_mem x 32 (by omega) n hn).1
    unfold prd
    rw [if_neg, hp, stp_lst x 32 (by omega), ofl_lst]
    intro e
    rw [e] at hp
    have h1 := stp_lst x 32 (by omega)
    rw [← hp] at h1
    revert h1
    have : (parts 44 [45]).foldl stp (some 0#32) = none := by decide +kernel
    rw [this]
    intro h1
    cases h1

set_option maxRecDepth 100000 in
set_option maxHeartbeats 4000000 in
theorem walk_bback (x : BitVec 32) (n : Int) (w : World) (h0 : -9223372036854775808 ≤ n) (h1 : n ≤ 9223372036854775807) (ht : Tab w) :
    Calls Tryd.prog 5 #[.int .u32 (x.toNat : Int), .int .i64 n] w fun e w' => e = .returned (.bool true) ∧ Below w.heap.size w w' := by
  have HA := Lib.hid (fun wx : World => baw_any wx)
  have HS := Lib.hid (fun wx : World => show_any x wx)
  have HR := Lib.hid (fun wx : World => (show Calls Tryd.prog 28 #[.string (str (bsh x))] wx fun e w' => e = .returned (.tuple #[.int .u32 (x.toNat : Int), .bool true]) ∧ Below wx.heap.size wx w' from by
    have h := sread_any (str (bsh x)) wx (bsh_size x)
    have e : prd ((str (bsh x)).data.toList) = (x, true) := prd_bsh x
    rw [e] at h
    exact h))
  have HT := Lib.hid (fun (wx : World) (hb : Below w.heap.size w wx) => tens_any n wx h0 h1 (ht.later hb))
  obtain ⟨sx, hsx⟩ : ∃ sx, sx = str (bsh x) := ⟨_, rfl⟩
  rw [← hsx] at HS HR
  obtain ⟨xx, hxx⟩ : ∃ xx, xx = (x.toNat : Int) := ⟨_, rfl⟩
  rw [← hxx] at HS HR ⊢
  have hb := Below.refl w.heap.size w
  clear hsx hxx
  by_cases hc : n < 0
  · have c1 : n < 0 := hc
    have HP := Lib.hid (show pint (Lib.itoa n) n = (0, false) from pint_neg n n hc)
    have HI1 := Lib.hid (fun wx : World => (show Calls Tryd.prog 26 #[.string (str (Lib.itoa n)), .int .i64 n] wx fun e w' => e = .returned (.tuple #[.int .i64 (pint (Lib.itoa n) n).1, .bool (pint (Lib.itoa n) n).2]) ∧ wx = w' from int_any (str (Lib.itoa n)) n wx))
    rw [HP.out] at HI1
    obtain ⟨ts, hts⟩ : ∃ ts, ts = str (Lib.itoa n) := ⟨_, rfl⟩
    rw [← hts] at HI1 HT
    clear HP hts
    go_enter Tryd.func5, Tryd.ntmps5
    go_wp2_with fail
    refine (HS.out _).mono ?_
    rintro e w ⟨rfl, hb1⟩
    replace hb := hb.trans (hb1.mono hb.size)
    clear hb1
    go_wp2_with fail
    refine (HR.out _).mono ?_
    rintro e w ⟨rfl, hb1⟩
    replace hb := hb.trans (hb1.mono hb.size)
    clear hb1
    go_wp2_with fail
    refine (HT.out _ hb).mono ?_
    rintro e w ⟨rfl, hb1⟩
    replace hb := hb.trans (hb1.mono hb.size)
    clear hb1
    go_wp2_with fail
    refine (HI1.out _).mono ?_
    rintro e w8 ⟨rfl, rfl⟩
    go_wp2_with fail
    refine (HA.out _).mono ?_
    rintro e w ⟨rfl, hb1⟩
    replace hb := hb.trans (hb1.mono hb.size)
    clear hb1
    go_wp2_with fail
    go_ret
    exact ⟨rfl, hb⟩
  · by_cases hc2 : 1099511627776 < n
    · have hc := hc2
      have c1 : ¬ n < 0 := by omega
      have c2 : 1099511627776 < n := hc
      have HP := Lib.hid (show pint (Lib.itoa n) n = (0, false) from pint_large n n hc)
      have HI1 := Lib.hid (fun wx : World => (show Calls Tryd.prog 26 #[.string (str (Lib.itoa n)), .int .i64 n] wx fun e w' => e = .returned (.tuple #[.int .i64 (pint (Lib.itoa n) n).1, .bool (pint (Lib.itoa n) n).2]) ∧ wx = w' from int_any (str (Lib.itoa n)) n wx))
      rw [HP.out] at HI1
      obtain ⟨ts, hts⟩ : ∃ ts, ts = str (Lib.itoa n) := ⟨_, rfl⟩
      rw [← hts] at HI1 HT
      clear HP hts
      go_enter Tryd.func5, Tryd.ntmps5
      go_wp2_with fail
      refine (HS.out _).mono ?_
      rintro e w ⟨rfl, hb1⟩
      replace hb := hb.trans (hb1.mono hb.size)
      clear hb1
      go_wp2_with fail
      refine (HR.out _).mono ?_
      rintro e w ⟨rfl, hb1⟩
      replace hb := hb.trans (hb1.mono hb.size)
      clear hb1
      go_wp2_with fail
      refine (HT.out _ hb).mono ?_
      rintro e w ⟨rfl, hb1⟩
      replace hb := hb.trans (hb1.mono hb.size)
      clear hb1
      go_wp2_with fail
      refine (HI1.out _).mono ?_
      rintro e w8 ⟨rfl, rfl⟩
      go_wp2_with fail
      refine (HA.out _).mono ?_
      rintro e w ⟨rfl, hb1⟩
      replace hb := hb.trans (hb1.mono hb.size)
      clear hb1
      go_wp2_with fail
      go_ret
      exact ⟨rfl, hb⟩
    · have c1 : ¬ n < 0 := by omega
      have c2 : ¬ 1099511627776 < n := by omega
      have HP := Lib.hid (show pint (Lib.itoa n) n = (n, true) from by rw [pint_most n n (by omega) (by omega), if_pos (Int.le_refl n)])
      have HP2 := Lib.hid (show pint (Lib.itoa n) (n - 1) = (0, false) from by rw [pint_most n (n - 1) (by omega) (by omega), if_neg (by omega)])
      have HI2 := Lib.hid (fun wx : World => (show Calls Tryd.prog 26 #[.string (str (Lib.itoa n)), .int .i64 (n - 1)] wx fun e w' => e = .returned (.tuple #[.int .i64 (pint (Lib.itoa n) (n - 1)).1, .bool (pint (Lib.itoa n) (n - 1)).2]) ∧ wx = w' from int_any (str (Lib.itoa n)) (n - 1) wx))
      rw [HP2.out] at HI2
      have HI1 := Lib.hid (fun wx : World => (show Calls Tryd.prog 26 #[.string (str (Lib.itoa n)), .int .i64 n] wx fun e w' => e = .returned (.tuple #[.int .i64 (pint (Lib.itoa n) n).1, .bool (pint (Lib.itoa n) n).2]) ∧ wx = w' from int_any (str (Lib.itoa n)) n wx))
      rw [HP.out] at HI1
      obtain ⟨ts, hts⟩ : ∃ ts, ts = str (Lib.itoa n) := ⟨_, rfl⟩
      rw [← hts] at HI1 HT HI2
      clear HP hts HP2
      go_enter Tryd.func5, Tryd.ntmps5
      go_wp2_with fail
      refine (HS.out _).mono ?_
      rintro e w ⟨rfl, hb1⟩
      replace hb := hb.trans (hb1.mono hb.size)
      clear hb1
      go_wp2_with fail
      refine (HR.out _).mono ?_
      rintro e w ⟨rfl, hb1⟩
      replace hb := hb.trans (hb1.mono hb.size)
      clear hb1
      go_wp2_with fail
      refine (HT.out _ hb).mono ?_
      rintro e w ⟨rfl, hb1⟩
      replace hb := hb.trans (hb1.mono hb.size)
      clear hb1
      go_wp2_with fail
      refine (HI1.out _).mono ?_
      rintro e w8 ⟨rfl, rfl⟩
      go_wp2_with fail
      refine (HT.out _ hb).mono ?_
      rintro e w ⟨rfl, hb1⟩
      replace hb := hb.trans (hb1.mono hb.size)
      clear hb1
      go_wp2_with fail
      refine (HI2.out _).mono ?_
      rintro e w8 ⟨rfl, rfl⟩
      go_wp2_with fail
      refine (HA.out _).mono ?_
      rintro e w ⟨rfl, hb1⟩
      replace hb := hb.trans (hb1.mono hb.size)
      clear hb1
      go_wp2_with fail
      go_ret
      exact ⟨rfl, hb⟩

set_option maxRecDepth 100000 in
set_option maxHeartbeats 4000000 in
theorem walk_btexts (n : Int) (x : BitVec 32) (t : ByteArray) (w : World) (h0 : -9223372036854775808 ≤ n) (h1 : n ≤ 9223372036854775807) (ht : Tab w) :
    Calls Tryd.prog 4 #[.int .i64 n, .int .u32 (x.toNat : Int), .string t] w fun e w' => e = .returned (.bool true) ∧ Below w.heap.size w w' := by
  have HA := Lib.hid (fun wx : World => baw_any wx)
  have hb := Below.refl w.heap.size w
  obtain ⟨g, hg⟩ : ∃ g, decide (1000 < (t.size : Int)) = g := ⟨_, rfl⟩
  cases g
  · have hx : t.size ≤ 1000 := by have := of_decide_eq_false hg; omega
    have HS1 := Lib.hid (fun wx : World => show_any x wx)
    have HS2 := Lib.hid (fun wx : World => bshow_any x wx)
    have HR1 := Lib.hid (fun wx : World => sread_any t wx hx)
    have HR2 := Lib.hid (fun wx : World => rsread_any t wx hx)
    rw [prd_brd] at HR1
    have HT1 := Lib.hid (fun (wx : World) (hb : Below w.heap.size w wx) => tens_any n wx h0 h1 (ht.later hb))
    have HT2 := Lib.hid (fun wx : World => rtens_any n wx h0 h1)
    have HI1 := Lib.hid (fun wx : World => int_any t n wx)
    have HI2 := Lib.hid (fun wx : World => rint_any t n wx)
    obtain ⟨z1, hz1⟩ : ∃ z, z = str (bsh x) := ⟨_, rfl⟩
    rw [← hz1] at HS1 HS2
    obtain ⟨z2, hz2⟩ : ∃ z, z = str (Lib.itoa n) := ⟨_, rfl⟩
    rw [← hz2] at HT1 HT2
    obtain ⟨z3, hz3⟩ : ∃ z, z = brd t.data.toList := ⟨_, rfl⟩
    rw [← hz3] at HR1 HR2
    obtain ⟨z4, hz4⟩ : ∃ z, z = pint t.data.toList n := ⟨_, rfl⟩
    rw [← hz4] at HI1 HI2
    obtain ⟨xx, hxx⟩ : ∃ xx, xx = (x.toNat : Int) := ⟨_, rfl⟩
    rw [← hxx] at HS1 HS2 ⊢
    obtain ⟨y3, k3⟩ := z3
    obtain ⟨y4, k4⟩ := z4
    simp only at HR1 HR2 HI1 HI2
    obtain ⟨v3, hv3⟩ : ∃ v, v = (y3.toNat : Int) := ⟨_, rfl⟩
    rw [← hv3] at HR1 HR2
    clear hz1 hz2 hz3 hz4 hxx hx hv3
    go_enter Tryd.func4, Tryd.ntmps4
    go_wp2_with fail
    refine (HI1.out _).mono ?_
    rintro e w8 ⟨rfl, rfl⟩
    go_wp2_with fail
    refine (HI2.out _).mono ?_
    rintro e w8 ⟨rfl, rfl⟩
    go_wp2_with fail
    refine (HR1.out _).mono ?_
    rintro e w ⟨rfl, hb1⟩
    replace hb := hb.trans (hb1.mono hb.size)
    clear hb1
    go_wp2_with fail
    refine (HR2.out _).mono ?_
    rintro e w ⟨rfl, hb1⟩
    replace hb := hb.trans (hb1.mono hb.size)
    clear hb1
    go_wp2_with fail
    refine (HT1.out _ hb).mono ?_
    rintro e w ⟨rfl, hb1⟩
    replace hb := hb.trans (hb1.mono hb.size)
    clear hb1
    go_wp2_with fail
    refine (HT2.out _).mono ?_
    rintro e w ⟨rfl, hb1⟩
    replace hb := hb.trans (hb1.mono hb.size)
    clear hb1
    go_wp2_with fail
    refine (HS1.out _).mono ?_
    rintro e w ⟨rfl, hb1⟩
    replace hb := hb.trans (hb1.mono hb.size)
    clear hb1
    go_wp2_with fail
    refine (HS2.out _).mono ?_
    rintro e w ⟨rfl, hb1⟩
    replace hb := hb.trans (hb1.mono hb.size)
    clear hb1
    go_wp2_with fail
    refine (HA.out _).mono ?_
    rintro e w ⟨rfl, hb1⟩
    replace hb := hb.trans (hb1.mono hb.size)
    clear hb1
    go_wp2_with fail
    go_ret
    exact ⟨rfl, hb⟩
  · go_enter Tryd.func4, Tryd.ntmps4
    go_wp2_with fail
    refine (HA.out _).mono ?_
    rintro e w ⟨rfl, hb1⟩
    replace hb := hb.trans (hb1.mono hb.size)
    clear hb1
    go_wp2_with fail
    go_ret
    exact ⟨rfl, hb⟩
end Go.Proofs.YtgdidamjgaegkaaDoor
