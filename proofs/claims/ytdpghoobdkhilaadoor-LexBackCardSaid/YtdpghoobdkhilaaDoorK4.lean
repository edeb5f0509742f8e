/- Texts of numbers, of values: what each returns, where Go's table of powers stands as laid. -/
import Derived.Test.YtdpghoobdkhilaaDoorK3
import Derived.Test.YtdpghoobdkhilaaDoorK2
import Derived.Lib.LaidTab
import Derived.Shelf.Small.Strs
import Derived.Shelf.Strconv.Itoa0
import Derived.Shelf.Strconv.Itoa1
import Derived.Shelf.LaysM
import Derived.Shelf.Strconv.Itoa2
import Derived.Shelf.Strconv.Itoa3
import Derived.Shelf.Strings.Search1
import Derived.Test.YtdpghoobdkhilaaDoorProg
import Derived.Test.YtdpghoobdkhilaaDoorK1
import Derived.Laws.StructEq
namespace Go.Proofs.YtdpghoobdkhilaaDoor
set_option linter.unusedVariables false
open Go Go.RowKit BitM ValM

/-- A value's text. -/
def vshow (v : V3) : List UInt8 := if vchk v = false then [] else if v.1 = 1 then Lib.itoa v.2.1 else if v.1 = 2 then quo v.2.2.data.toList else [45]
theorem vchk_num (n : Int) (s : ByteArray) (h : vchk (1, n, s) = true) : 0 ≤ n ∧ n ≤ 1099511627776 ∧ s = empty := by
  unfold vchk at h; simpa using h
theorem vchk_txt (n : Int) (s : ByteArray) (h : vchk (2, n, s) = true) : n = 0 ∧ s.size ≤ 24 := by
  unfold vchk at h; simpa using h
theorem vchk_nil (n : Int) (s : ByteArray) (h : vchk (0, n, s) = true) : n = 0 ∧ s = empty := by
  unfold vchk at h; simpa using h
theorem vchk_kind (k n : Int) (s : ByteArray) (h : vchk (k, n, s) = true) : k = 0 ∨ k = 1 ∨ k = 2 := by
  unfold vchk at h
  by_cases h0 : k = 0
  · exact .inl h0
  · by_cases h1 : k = 1
    · exact .inr (.inl h1)
    · by_cases h2 : k = 2
      · exact .inr (.inr h2)
      · simp [h0, h1, h2] at h

set_option maxRecDepth 100000 in
set_option maxHeartbeats 1600000 in
theorem vshow_any (v : V3) (w : World) (ht : Tab w) : Calls Tryd.prog 31 #[.agg (vcells v).toArray] w fun e w' => e = .returned (.string (str (vshow v))) ∧ Below w.heap.size w w' := by
  obtain ⟨k, n, s⟩ := v
  have HK := Lib.hid (fun wx : World => (show Calls Tryd.prog 35 #[.agg (vcells (k, n, s)).toArray] wx fun e w' => e = .returned (.bool (vchk (k, n, s))) ∧ Below wx.heap.size wx w' from vcheck_any k n s wx))
  have HV : Hid (vshow (k, n, s) = if vchk (k, n, s) = false then [] else if k = 1 then Lib.itoa n else if k = 2 then quo s.data.toList else [45]) := Lib.hid rfl
  have HT := Lib.hid ht
  have hu := Tryd.underlying54
  have B0 := Blk.new w (vcells (k, n, s)) 54
  have hb := (Below.refl w.heap.size w).alloc (Nat.le_refl _) (.cells (vcells (k, n, s)).toArray 54)
  have R0 := B0.valR
  obtain ⟨u, hu2⟩ : ∃ u, u = str (vshow (k, n, s)) := ⟨_, rfl⟩
  rw [← hu2]
  have HU := Lib.hid hu2
  have HCK : Hid (vchk (k, n, s) = vchk (k, n, s)) := Lib.hid rfl
  have hn1 := vchk_num n s
  have hn2 := vchk_txt n s
  have hn3 := vchk_kind k n s
  have HN1 := Lib.hid hn1
  have HN2 := Lib.hid hn2
  have HN3 := Lib.hid hn3
  obtain ⟨ca, hca⟩ : ∃ ca, ca = (vcells (k, n, s)).toArray := ⟨_, rfl⟩
  rw [← hca] at R0 B0 hb ⊢
  clear hca hu2 HCK hn1 hn2 hn3 ht
  cases hck : vchk (k, n, s)
  · rw [hck] at HK HV
    have HX : Hid (u = ⟨#[]⟩) := Lib.hid (by rw [HU.out, HV.out, if_pos rfl]; rfl)
    clear hck
    go_enter Tryd.func31, Tryd.ntmps31
    go_wp2_with (first
      | (refine wpList_load_mid rfl 54 (.tmp 1) rfl w.heap.size 0 rfl (vcells (k, n, s)) _ R0 hu rfl info_val ?_))
    refine (HK.out _).mono ?_
    rintro e w1 ⟨rfl, hb1⟩
    have hb2 := hb.trans (hb1.mono hb.size)
    clear B0 R0 hb1 hb
    go_wp2_with fail
    go_ret
    exact ⟨by rw [HX.out]; rfl, hb2⟩
  · rw [hck] at HK HV
    have HKD := Lib.hid (HN3.out hck)
    have HCH := Lib.hid hck
    clear hck
    rcases HKD.out with rfl | rfl | rfl
    · have HX : Hid (u = ⟨#[45]⟩) := Lib.hid (by rw [HU.out, HV.out]; rfl)
      go_enter Tryd.func31, Tryd.ntmps31
      go_wp2_with (first
        | (refine wpList_load_mid rfl 54 (.tmp 1) rfl w.heap.size 0 rfl (vcells (0, n, s)) _ R0 hu rfl info_val ?_))
      refine (HK.out _).mono ?_
      rintro e w1 ⟨rfl, hb1⟩
      have B1 := B0.later hb1
      obtain ⟨p0, p1, p2⟩ := B1.val
      have hb2 := hb.trans (hb1.mono hb.size)
      clear B0 R0 hb1 hb
      go_wp2_with fail
      go_ret
      exact ⟨by rw [HX.out]; rfl, hb2⟩
    · have HX : Hid (u = str (Lib.itoa n)) := Lib.hid (by rw [HU.out, HV.out]; rfl)
      have HC := Lib.hid (fun (wx : World) (hb : Below w.heap.size w wx) => tens_any n wx (by have := HN1.out HCH.out; omega) (by have := HN1.out HCH.out; omega) (HT.out.later hb))
      rw [← HX.out] at HC
      go_enter Tryd.func31, Tryd.ntmps31
      go_wp2_with (first
        | (refine wpList_load_mid rfl 54 (.tmp 1) rfl w.heap.size 0 rfl (vcells (1, n, s)) _ R0 hu rfl info_val ?_))
      refine (HK.out _).mono ?_
      rintro e w1 ⟨rfl, hb1⟩
      have B1 := B0.later hb1
      obtain ⟨p0, p1, p2⟩ := B1.val
      have hb2 := hb.trans (hb1.mono hb.size)
      clear B0 R0 hb1 hb
      go_wp2_with fail
      refine (HC.out _ hb2).mono ?_
      rintro e w2 ⟨rfl, hb3⟩
      have hb4 := hb2.trans (hb3.mono hb2.size)
      clear p0 p1 p2 hb2
      go_wp2_with fail
      go_ret
      exact ⟨rfl, hb4⟩
    · have HX : Hid (u = str (quo s.data.toList)) := Lib.hid (by rw [HU.out, HV.out]; rfl)
      have HC := Lib.hid (fun (wx : World) => quote_any s wx (by have := HN2.out HCH.out; omega))
      rw [← HX.out] at HC
      go_enter Tryd.func31, Tryd.ntmps31
      go_wp2_with (first
        | (refine wpList_load_mid rfl 54 (.tmp 1) rfl w.heap.size 0 rfl (vcells (2, n, s)) _ R0 hu rfl info_val ?_))
      refine (HK.out _).mono ?_
      rintro e w1 ⟨rfl, hb1⟩
      have B1 := B0.later hb1
      obtain ⟨p0, p1, p2⟩ := B1.val
      have hb2 := hb.trans (hb1.mono hb.size)
      clear B0 R0 hb1 hb
      go_wp2_with fail
      refine (HC.out _).mono ?_
      rintro e w2 ⟨rfl, hb3⟩
      have hb4 := hb2.trans (hb3.mono hb2.size)
      clear p0 p1 p2 hb2
      go_wp2_with fail
      go_ret
      exact ⟨rfl, hb4⟩
end Go.Proofs.YtdpghoobdkhilaaDoor

/- Contracts of Go's library at this program: strings.Join, strings.Split and the like, laid by the shelf's own tools. No condition beside what each says. -/
namespace Go.Proofs.YtdpghoobdkhilaaDoor
open Go Go.Shelf

def Tryd.lays137_ren : Go.Shelf.Ren := ⟨fun | 137 => 23 | 217 => 32 | 266 => 38 | n => n, fun | 9 => 9 | 5 => 5 | 3 => 3 | n => n, fun | n => n⟩
theorem Tryd.lays137 : Go.Proofs.Lays.n137 Tryd.prog Tryd.lays137_ren := {
  mixed := by kernel_rfl
  f137 := Tryd.func23.trans (congrArg some (by kernel_rfl))
  f217 := Tryd.func32.trans (congrArg some (by kernel_rfl))
  f266 := Tryd.func38.trans (congrArg some (by kernel_rfl))
  t3 := Tryd.underlying3
  a3 := Tryd.isAgg3
  z3 := Tryd.sizeOf3
  v3 := Tryd.zeroValue3
  t5 := Tryd.underlying5
  a5 := Tryd.isAgg5
  z5 := Tryd.sizeOf5
  v5 := Tryd.zeroValue5
  t9 := Tryd.underlying9
  a9 := Tryd.isAgg9
  z9 := Tryd.sizeOf9
  v9 := Tryd.zeroValue9 }
open Go.RowKit in
theorem Tryd.strings_IndexByte (s : ByteArray) (c : Int) (w : World) :
    Calls Tryd.prog 23 #[.string s, .int .u8 c] w fun e w' => e = .returned (.int .i64 (Lib.indexByte s.data.toList c.toNat.toUInt8)) ∧ w' = w := Any.strings_IndexByte Tryd.lays137 s c w
end Go.Proofs.YtdpghoobdkhilaaDoor

/- What a number's text is read as; what unquote returns of a text in quotes. -/
namespace Go.Proofs.YtdpghoobdkhilaaDoor
set_option linter.unusedVariables false
open Go Go.RowKit BitM MskM ValM

theorem dec_facts : ∀ (k n : Nat), n ≤ k → num (Lib.decDigits n) = n ∧ (Lib.decDigits n).all dig = true ∧ Lib.decDigits n ≠ [] ∧ (1 ≤ n → (Lib.decDigits n).headD 0 ≠ 48) := by
  intro k
  induction k using Nat.strongRecOn with
  | _ k ih =>
    intro n hn
    have key : ∀ d : Fin 10, num [UInt8.ofNat (48 + d.val)] = d.val ∧ [UInt8.ofNat (48 + d.val)].all dig = true ∧ (1 ≤ d.val → UInt8.ofNat (48 + d.val) ≠ 48) ∧ (UInt8.ofNat (48 + d.val)).toNat - 48 = d.val := by decide +kernel
    by_cases h9 : n < 10
    · rw [Lib.decDigits_one h9]
      obtain ⟨h1, h2, h3, _⟩ := key ⟨n, h9⟩
      exact ⟨h1, h2, by simp, h3⟩
    · rw [Lib.decDigits, dif_neg h9]
      obtain ⟨h1, h2, h3, h4⟩ := ih (n / 10) (by omega) (n / 10) (Nat.le_refl _)
      obtain ⟨_, k2, _, k4⟩ := key ⟨n % 10, by omega⟩
      refine ⟨?_, ?_, by simp, fun _ => ?_⟩
      · rw [num_snoc, h1]
        simp only at k4
        rw [k4]; omega
      · rw [List.all_append, h2, Bool.true_and]; exact k2
      · have h5 := h4 (by omega)
        cases hl : Lib.decDigits (n / 10) with
        | nil => exact absurd hl h3
        | cons c l => rw [hl] at h5; exact h5
theorem pint_itoa (n : Int) (h0 : 0 ≤ n) (h : n ≤ 1099511627776) : pint (Lib.itoa n) 1099511627776 = (n, true) := by
  obtain ⟨k, rfl⟩ := Int.eq_ofNat_of_zero_le h0
  have hi : Lib.itoa (k : Int) = Lib.decDigits k := by unfold Lib.itoa; rw [if_neg (by omega), Int.toNat_natCast]
  obtain ⟨h1, h2, h3, h4⟩ := dec_facts k k (Nat.le_refl _)
  have hlen := dec_len 12 k (by omega)
  rw [hi]
  unfold pint
  rw [if_neg, h1]
  rintro (e | e | ⟨e, e2⟩ | e | e)
  · exact h3 e
  · omega
  · by_cases hk : 1 ≤ k
    · exact h4 hk e2
    · have : k = 0 := by omega
      subst this
      rw [Lib.decDigits_one (by omega)] at e
      simp at e
  · rw [h2] at e; cases e
  · rw [h1] at e; omega

theorem wrapA (m : Nat) (h : m < 256) : IntKind.i64.wrap ((m : Int) / 16 * 16) = (m : Int) / 16 * 16 := by
  have key : ∀ m : Fin 256, IntKind.i64.wrap (((m.val : Nat) : Int) / 16 * 16) = ((m.val : Nat) : Int) / 16 * 16 := by decide +kernel
  exact key ⟨m, h⟩
theorem orA (m : Nat) (h : m < 256) : bits .or .i64 ((m : Int) / 16 * 16) ((m : Int) % 16) = (m : Int) := by
  have key : ∀ m : Fin 256, bits .or .i64 (((m.val : Nat) : Int) / 16 * 16) (((m.val : Nat) : Int) % 16) = ((m.val : Nat) : Int) := by decide +kernel
  exact key ⟨m, h⟩
theorem wrapB (m : Nat) (h : m < 256) : IntKind.u8.wrap (m : Int) = (m : Int) := by
  have key : ∀ m : Fin 256, IntKind.u8.wrap ((m.val : Nat) : Int) = ((m.val : Nat) : Int) := by decide +kernel
  exact key ⟨m, h⟩
theorem byte_of {t : ByteArray} {i : Nat} {a : UInt8} {r : List UInt8} (h : t.data.toList.drop i = a :: r) : ∃ h2 : i < t.size, t[i]'h2 = a ∧ t.data.toList.drop (i + 1) = r := by
  have hlt : i < t.data.toList.length := by
    rcases Nat.lt_or_ge i t.data.toList.length with h' | h'
    · exact h'
    · rw [List.drop_eq_nil_of_le h'] at h; cases h
  rw [List.drop_eq_getElem_cons hlt] at h
  injection h with h1 h2
  exact ⟨by simpa using hlt, h1, h2⟩

set_option maxRecDepth 100000 in
set_option maxHeartbeats 3200000 in
theorem unquote_any (t : ByteArray) (xs : List UInt8) (w : World) (ht : t.data.toList = quo xs) (hx : xs.length ≤ 1000) : Calls Tryd.prog 30 #[.string t] w fun e w' => e = .returned (.string (str xs)) ∧ Below w.heap.size w w' := by
  obtain ⟨i0, hi, hz0, hz1, hz2⟩ := info_parts info_byte
  have hsz : t.size = (qug xs).length + 2 := by
    have : t.data.toList.length = t.size := by simp
    rw [← this, ht]
    unfold quo
    rw [List.length_append, List.length_append]
    simp; omega
  have HQ4 := Lib.hid (qug_len xs)
  have HSZ := Lib.hid hsz
  have hts : t.size ≤ 4002 := by have := HQ4.out; omega
  clear hsz
  have HIX := Lib.hid (fun (a : UInt8) (wx : World) => (Tryd.strings_IndexByte hexs (a.toNat : Int) wx).mono fun e w' (h : e = .returned (.int .i64 (Lib.indexByte hexs.data.toList (a.toNat : Int).toNat.toUInt8)) ∧ w' = wx) => (show e = .returned (.int .i64 (Lib.indexByte hexs.data.toList a)) ∧ Below wx.heap.size wx w' from ⟨by rw [h.1]; simp, h.2 ▸ Below.refl _ _⟩))
  obtain ⟨u, hu⟩ : ∃ u, u = str xs := ⟨_, rfl⟩
  rw [← hu]
  have HU := Lib.hid hu
  clear hu
  have HT := Lib.hid ht
  clear ht
  go_enter Tryd.func30, Tryd.ntmps30
  go_wp2_with fail
  go_loopw [3, 4] (fun v ii wr => ∃ j i : Nat, j ≤ xs.length ∧ ii = .int .i64 i ∧ i ≤ 4001 ∧ Hid (i = 1 + (qug (xs.take j)).length) ∧ (∃ A1 c1, v = .slice A1 j c1 ∧ Own wr w.heap.size 5 v (bvs (xs.take j))) ∧ Below w.heap.size w wr) (fun _ ii _ => 4002 - (intOf ii).toNat)
  case atStart => exact ⟨0, 1, Nat.zero_le _, rfl, by omega, Lib.hid rfl, ⟨none, 0, rfl, ⟨rfl, .inl ⟨rfl, rfl⟩⟩⟩, Below.refl _ _⟩
  case round =>
    obtain ⟨j, i, hj, rfl, hi4, HI, ⟨A1, c1, rfl, hown⟩, hbr⟩ := hrel
    by_cases hlt : j < xs.length
    · have hsplit : qug xs = qug (xs.take j) ++ (escg xs[j] ++ qug (xs.drop (j + 1))) := by
        rw [← qug_cons, ← List.drop_eq_getElem_cons hlt, ← qug_append, List.take_append_drop]
      have hlens : (qug xs).length = (qug (xs.take j)).length + ((escg xs[j]).length + (qug (xs.drop (j + 1))).length) := by rw [hsplit, List.length_append, List.length_append]
      have HD : Hid (t.data.toList.drop i = escg xs[j] ++ (qug (xs.drop (j + 1)) ++ [34])) := Lib.hid (by
        rw [HT.out, HI.out]
        unfold quo
        rw [hsplit, List.append_assoc, List.append_assoc, ← List.drop_drop]
        simp [List.drop_left'])
      have HTJ : Hid ((xs.take j).length = j) := Lib.hid (by rw [List.length_take]; omega)
      have HTK : Hid (xs.take (j + 1) = xs.take j ++ [xs[j]]) := Lib.hid (List.take_succ_eq_append_getElem hlt)
      have hiq := HI.out
      have hsz := HSZ.out
      have hq4 := HQ4.out
      have HIN := HI
      rcases escg_kinds xs[j] with ⟨he, hn⟩ | ⟨he, hn⟩ | ⟨he, hn⟩
      · have HE := Lib.hid he
        rw [he, List.length_cons, List.length_nil] at hlens
        have hd := HD.out
        rw [he] at hd
        obtain ⟨l0, e0, hd1⟩ := byte_of hd
        have n0 : ((t[i].toNat : Int) != 92) = true := by
          rw [bne_iff_ne]; intro e; rw [e0] at e; exact hn.1 (UInt8.toNat_inj.1 (Int.ofNat_inj.1 e))
        have HB0 : Hid (t[i] = xs[j]) := Lib.hid e0
        have hg : (i : Int) < (t.size : Int) - 1 := by omega
        have hi6 : i + 1 ≤ 4001 := by omega
        clear he hn hd hd1 e0 hsplit hiq hsz hq4 hlens
        go_wp2_with (first
          | (at_builtin
             refine wpList_app _ rfl (.tmp 18) (.tmp 20) _ rfl w.heap.size 5 i0 _ 1 Tryd.underlying59 hi hz0 hz1 hz2 rfl (.slice A1 j c1) (bvs (xs.take j)) j rfl (by rw [bvs_length, HTJ.out]) (hown.alloc _) (wr.heap.size + 1) (some ⟨wr.heap.size, 0, none⟩) 1 (bvs [t[i]]) 1 rfl rfl (sees_lit wr _ 5 (0, 0) _ rfl) (bvs_one _) (by simp [maxLen]; omega) (by omega) (by have := hbr.size; simp; omega) ?_
             intro A9 c9 w9 hown9 hb9 hg9 hat9
             rw [← bvs_append, HB0.out, ← HTK.out] at hown9
             have hbr9 : Below w.heap.size w w9 := (hbr.alloc hbr.size _).trans hb9
             clear hg9 hat9 hb9 hown hbr)
          | fail)
        go_roundw
        case rel => exact ⟨j + 1, i + 1, by omega, by go_num, by omega, Lib.hid (by rw [HIN.out, HTK.out, qug_snoc, List.length_append, HE.out]; simp; try omega), ⟨A9, c9, rfl, hown9⟩, hbr9⟩
        case measure => simp [intOf]; omega
      · have HE := Lib.hid he
        rw [he] at hlens
        simp only [List.length_cons, List.length_nil] at hlens
        have hd := HD.out
        rw [he] at hd
        obtain ⟨l0, e0, hd1⟩ := byte_of hd
        obtain ⟨l1, e1, hd2⟩ := byte_of hd1
        have n0 : ((t[i].toNat : Int) != 92) = false := by rw [e0]; rfl
        have n1 : ((t[i + 1].toNat : Int) == 120) = false := by
          rw [e1, beq_eq_false_iff_ne]; rcases hn with h | h <;> rw [h] <;> decide
        have HB1 : Hid (t[i + 1] = xs[j]) := Lib.hid e1
        have hg : (i : Int) < (t.size : Int) - 1 := by omega
        have hi6 : i + 2 ≤ 4001 := by omega
        clear he hn hd hd1 hd2 e0 e1 hsplit hiq hsz hq4 hlens
        go_wp2_with (first
          | (at_builtin
             refine wpList_app _ rfl (.tmp 51) (.tmp 53) _ rfl w.heap.size 5 i0 _ 1 Tryd.underlying59 hi hz0 hz1 hz2 rfl (.slice A1 j c1) (bvs (xs.take j)) j rfl (by rw [bvs_length, HTJ.out]) (hown.alloc _) (wr.heap.size + 1) (some ⟨wr.heap.size, 0, none⟩) 1 (bvs [t[i + 1]]) 1 rfl rfl (sees_lit wr _ 5 (0, 0) _ rfl) (bvs_one _) (by simp [maxLen]; omega) (by omega) (by have := hbr.size; simp; omega) ?_
             intro A9 c9 w9 hown9 hb9 hg9 hat9
             rw [← bvs_append, HB1.out, ← HTK.out] at hown9
             have hbr9 : Below w.heap.size w w9 := (hbr.alloc hbr.size _).trans hb9
             clear hg9 hat9 hb9 hown hbr)
          | fail)
        go_roundw
        case rel => exact ⟨j + 1, i + 2, by omega, by go_num, by omega, Lib.hid (by rw [HIN.out, HTK.out, qug_snoc, List.length_append, HE.out]; simp; try omega), ⟨A9, c9, rfl, hown9⟩, hbr9⟩
        case measure => simp [intOf]; omega
      · have HE := Lib.hid he
        rw [he] at hlens
        simp only [List.length_cons, List.length_nil] at hlens
        have hd := HD.out
        rw [he] at hd
        obtain ⟨l0, e0, hd1⟩ := byte_of hd
        obtain ⟨l1, e1, hd2⟩ := byte_of hd1
        obtain ⟨l2, e2, hd3⟩ := byte_of hd2
        obtain ⟨l3, e3, hd4⟩ := byte_of hd3
        have n0 : ((t[i].toNat : Int) != 92) = false := by rw [e0]; rfl
        have n1 : ((t[i + 1].toNat : Int) == 120) = true := by rw [e1]; rfl
        have hm := UInt8.toNat_lt xs[j]
        have l3' : i + 1 + 2 < t.size := l3
        have e3' : t[i + 1 + 2] = hexd (xs[j].toNat % 16) := e3
        have HB : Hid (UInt8.ofNat xs[j].toNat = xs[j]) := Lib.hid (by simp)
        obtain ⟨m, hmm⟩ : ∃ m, m = xs[j].toNat := ⟨_, rfl⟩
        rw [← hmm] at hm e2 e3' HB
        have HX2 : Hid (∀ wx : World, Calls Tryd.prog 23 #[.string hexs, .int .u8 (t[i + 1 + 1].toNat : Int)] wx fun e w' => e = .returned (.int .i64 ((m / 16 : Nat) : Int)) ∧ Below wx.heap.size wx w') := Lib.hid (fun wx => by
          have := HIX.out t[i + 1 + 1] wx
          rw [show Lib.indexByte hexs.data.toList t[i + 1 + 1] = ((m / 16 : Nat) : Int) by rw [e2]; exact hexs_index _ (by omega)] at this
          exact this)
        have HX3 : Hid (∀ wx : World, Calls Tryd.prog 23 #[.string hexs, .int .u8 (t[i + 1 + 2].toNat : Int)] wx fun e w' => e = .returned (.int .i64 ((m % 16 : Nat) : Int)) ∧ Below wx.heap.size wx w') := Lib.hid (fun wx => by
          have := HIX.out t[i + 1 + 2] wx
          rw [show Lib.indexByte hexs.data.toList t[i + 1 + 2] = ((m % 16 : Nat) : Int) by rw [e3']; exact hexs_index _ (by omega)] at this
          exact this)
        have hg : (i : Int) < (t.size : Int) - 1 := by omega
        have hg2 : (i : Int) + 1 + 2 < (t.size : Int) := by omega
        have hy1 : (0 : Int) ≤ (i : Int) + 1 + 1 := by omega
        have hy2 : (i : Int) + 1 + 1 < (t.size : Int) := by omega
        have hy3 : (0 : Int) ≤ (i : Int) + 1 + 2 := by omega
        have hi6 : i + 4 ≤ 4001 := by omega
        clear he hn hd hd1 hd2 hd3 hd4 e0 e1 e2 e3 e3' hsplit hmm l3 hiq hsz hq4 hlens
        go_wp2_with fail
        refine wp_region_steady [] 57 (by kernel_rfl) (by kernel_rfl) (by kernel_rfl) (by rfl) ?_
        iterate 4 (refine wpG_quiet (by rfl) (by rfl) (by rfl) (fun K hK => ?_); go_big_quiet_op; refine hK _ ?_; clear hK K)
        refine wpG_call (by rfl) (by rfl) 23 #[.string { data := #[48, 49, 50, 51, 52, 53, 54, 55, 56, 57, 97, 98, 99, 100, 101, 102] }, .int .u8 (t[i + 1 + 1].toNat : Int)] (.int .i64 ((m / 16 : Nat) : Int)) (by intro _; simp [go_sem]) (by kernel_rfl) (fun w1 hl => (HX2.out w1)) ?_
        simp only [Act.put, List.setIfInBounds_toArray, List.set_cons_zero, List.set_cons_succ]
        refine wpG_run (by rfl) (by rfl) (.int .i64 ((m / 16 * 16 : Nat) : Int)) (fun w1 hl => by simp [go_sem]; exact wrapA m hm) ?_
        simp only [Act.put, List.setIfInBounds_toArray, List.set_cons_zero, List.set_cons_succ]
        iterate 4 (refine wpG_quiet (by rfl) (by rfl) (by rfl) (fun K hK => ?_); go_big_quiet_op; refine hK _ ?_; clear hK K)
        refine wpG_call (by rfl) (by rfl) 23 #[.string { data := #[48, 49, 50, 51, 52, 53, 54, 55, 56, 57, 97, 98, 99, 100, 101, 102] }, .int .u8 (t[i + 1 + 2].toNat : Int)] (.int .i64 ((m % 16 : Nat) : Int)) (by intro _; simp [go_sem]) (by kernel_rfl) (fun w1 hl => (HX3.out w1)) ?_
        simp only [Act.put, List.setIfInBounds_toArray, List.set_cons_zero, List.set_cons_succ]
        refine wpG_run (by rfl) (by rfl) (.int .i64 (m : Int)) (fun w1 hl => by simp [go_sem]; exact orA m hm) ?_
        simp only [Act.put, List.setIfInBounds_toArray, List.set_cons_zero, List.set_cons_succ]
        refine wpG_run (by rfl) (by rfl) (.int .u8 (m : Int)) (fun w1 hl => by simp [go_sem]; exact wrapB m hm) ?_
        simp only [Act.put, List.setIfInBounds_toArray, List.set_cons_zero, List.set_cons_succ]
        iterate 1 (refine wpG_quiet (by rfl) (by rfl) (by rfl) (fun K hK => ?_); go_big_quiet_op; refine hK _ ?_; clear hK K)
        refine wpG_nil fun w1 hl _ => ?_
        replace hown := hown.later hl
        replace hbr := hbr.trans (hl.mono hbr.size)
        have hi7 : (i : Int) + 1 + 2 + 1 = (i : Int) + 4 := by omega
        clear hl
        go_wp2_with (first
          | (at_builtin
             refine wpList_app _ rfl (.tmp 51) (.tmp 53) _ rfl w.heap.size 5 i0 _ 1 Tryd.underlying59 hi hz0 hz1 hz2 rfl (.slice A1 j c1) (bvs (xs.take j)) j rfl (by rw [bvs_length, HTJ.out]) (hown.alloc _) (w1.heap.size + 1) (some ⟨w1.heap.size, 0, none⟩) 1 (bvs [UInt8.ofNat m]) 1 rfl rfl (sees_lit w1 _ 5 (0, 0) _ (by simp [bvs, bv, Nat.mod_eq_of_lt hm])) (bvs_one _) (by simp [maxLen]; omega) (by omega) (by have := hbr.size; simp; omega) ?_
             intro A9 c9 w9 hown9 hb9 hg9 hat9
             rw [← bvs_append, HB.out, ← HTK.out] at hown9
             have hbr9 : Below w.heap.size w w9 := (hbr.alloc hbr.size _).trans hb9
             clear hg9 hat9 hb9 hown hbr)
          | fail)
        go_roundw
        case rel => exact ⟨j + 1, i + 4, by omega, by go_num, by omega, Lib.hid (by rw [HIN.out, HTK.out, qug_snoc, List.length_append, HE.out]; simp; try omega), ⟨A9, c9, rfl, hown9⟩, hbr9⟩
        case measure => simp [intOf]; omega
    · obtain rfl : j = xs.length := by omega
      have hiq := HI.out
      have hsz := HSZ.out
      rw [List.take_length] at hown hiq
      have hg : ¬ (i : Int) < (t.size : Int) - 1 := by omega
      clear hiq hsz
      have hcv := run_str (P := Tryd.prog) wr wr.heap.size 59 5 9 Tryd.underlying59 Tryd.underlying5 Tryd.underlying9 A1 xs.length c1 xs rfl hown.sees
      rw [← HU.out] at hcv
      clear hown
      go_wp2_with fail
      go_ret
      exact ⟨rfl, hbr⟩
end Go.Proofs.YtdpghoobdkhilaaDoor

/- unquote of any text: it returns some text. -/
namespace Go.Proofs.YtdpghoobdkhilaaDoor
set_option linter.unusedVariables false
open Go Go.RowKit BitM MskM ValM

theorem u8_some (x : Int) : ∃ c : UInt8, IntKind.u8.wrap x = (c.toNat : Int) := by
  have e : IntKind.u8.wrap x = x % 256 := by
    have h1 : IntKind.u8.signed = false := rfl
    have h2 : IntKind.u8.bits = 8 := rfl
    simp [IntKind.wrap, h1, h2]
  refine ⟨UInt8.ofNat (x % 256).toNat, ?_⟩
  rw [e, UInt8.toNat_ofNat']
  omega

set_option maxRecDepth 100000 in
set_option maxHeartbeats 3200000 in
theorem unquote_some (t : ByteArray) (w : World) (hx : t.size ≤ 1000) : Calls Tryd.prog 30 #[.string t] w fun e w' => (∃ p, e = .returned (.string p)) ∧ Below w.heap.size w w' := by
  obtain ⟨i0, hi, hz0, hz1, hz2⟩ := info_parts info_byte
  have HIX := Lib.hid (fun (a : UInt8) (wx : World) => (Tryd.strings_IndexByte hexs (a.toNat : Int) wx).mono fun e w' (h : e = .returned (.int .i64 (Lib.indexByte hexs.data.toList (a.toNat : Int).toNat.toUInt8)) ∧ w' = wx) => (show e = .returned (.int .i64 (Lib.indexByte hexs.data.toList a)) ∧ Below wx.heap.size wx w' from ⟨by rw [h.1]; simp, h.2 ▸ Below.refl _ _⟩))
  go_enter Tryd.func30, Tryd.ntmps30
  go_wp2_with fail
  go_loopw [3, 4] (fun v ii wr => ∃ (i m : Nat) (l : List UInt8), i ≤ 1004 ∧ ii = .int .i64 i ∧ m ≤ i ∧ Hid (l.length = m) ∧ (∃ A1 c1, v = .slice A1 m c1 ∧ Own wr w.heap.size 5 v (bvs l)) ∧ Below w.heap.size w wr) (fun _ ii _ => 1005 - (intOf ii).toNat)
  case atStart => exact ⟨1, 0, [], by omega, rfl, by omega, Lib.hid rfl, ⟨none, 0, rfl, ⟨rfl, .inl ⟨rfl, rfl⟩⟩⟩, Below.refl _ _⟩
  case round =>
    obtain ⟨i, m, l, hi4, rfl, hmi, HLM, ⟨A1, c1, rfl, hown⟩, hbr⟩ := hrel
    by_cases hlt : i + 1 < t.size
    · have hg : (i : Int) < (t.size : Int) - 1 := by omega
      have l0 : i < t.size := by omega
      by_cases h92 : t[i] = 92
      · have n0 : ((t[i].toNat : Int) != 92) = false := by rw [h92]; rfl
        clear h92
        by_cases h120 : t[i + 1] = 120
        · have n1 : ((t[i + 1].toNat : Int) == 120) = true := by rw [h120]; rfl
          clear h120
          by_cases h3 : i + 1 + 2 < t.size
          · have hg3 : (i : Int) + 1 + 2 < (t.size : Int) := by omega
            have hy1 : (0 : Int) ≤ (i : Int) + 1 + 1 := by omega
            have hy2 : (i : Int) + 1 + 1 < (t.size : Int) := by omega
            have hy3 : (0 : Int) ≤ (i : Int) + 1 + 2 := by omega
            have hl2 : i + 1 + 1 < t.size := by omega
            have HX2 : Hid (∀ wx : World, Calls Tryd.prog 23 #[.string hexs, .int .u8 (t[i + 1 + 1].toNat : Int)] wx fun e w' => e = .returned (.int .i64 (Lib.indexByte hexs.data.toList t[i + 1 + 1])) ∧ Below wx.heap.size wx w') := Lib.hid (HIX.out t[i + 1 + 1])
            have HX3 : Hid (∀ wx : World, Calls Tryd.prog 23 #[.string hexs, .int .u8 (t[i + 1 + 2].toNat : Int)] wx fun e w' => e = .returned (.int .i64 (Lib.indexByte hexs.data.toList t[i + 1 + 2])) ∧ Below wx.heap.size wx w') := Lib.hid (HIX.out t[i + 1 + 2])
            obtain ⟨x, hxv⟩ : ∃ z, z = Lib.indexByte hexs.data.toList t[i + 1 + 1] := ⟨_, rfl⟩
            obtain ⟨y, hyv⟩ : ∃ z, z = Lib.indexByte hexs.data.toList t[i + 1 + 2] := ⟨_, rfl⟩
            rw [← hxv] at HX2
            rw [← hyv] at HX3
            obtain ⟨c, hc⟩ := u8_some (bits .or .i64 (IntKind.i64.wrap (x * 16)) y)
            have HCW := Lib.hid hc
            have HC8 : Hid (UInt8.ofNat c.toNat = c) := Lib.hid (by simp)
            have hc256 := UInt8.toNat_lt c
            clear hxv hyv hc
            go_wp2_with fail
            refine wp_region_steady [] 57 (by kernel_rfl) (by kernel_rfl) (by kernel_rfl) (by rfl) ?_
            iterate 4 (refine wpG_quiet (by rfl) (by rfl) (by rfl) (fun K hK => ?_); go_big_quiet_op; refine hK _ ?_; clear hK K)
            refine wpG_call (by rfl) (by rfl) 23 #[.string { data := #[48, 49, 50, 51, 52, 53, 54, 55, 56, 57, 97, 98, 99, 100, 101, 102] }, .int .u8 (t[i + 1 + 1].toNat : Int)] (.int .i64 x) (by intro _; simp [go_sem]) (by kernel_rfl) (fun w1 hl => (HX2.out w1)) ?_
            simp only [Act.put, List.setIfInBounds_toArray, List.set_cons_zero, List.set_cons_succ]
            refine wpG_run (by rfl) (by rfl) (.int .i64 (IntKind.i64.wrap (x * 16))) (fun w1 hl => by simp [go_sem]) ?_
            simp only [Act.put, List.setIfInBounds_toArray, List.set_cons_zero, List.set_cons_succ]
            iterate 4 (refine wpG_quiet (by rfl) (by rfl) (by rfl) (fun K hK => ?_); go_big_quiet_op; refine hK _ ?_; clear hK K)
            refine wpG_call (by rfl) (by rfl) 23 #[.string { data := #[48, 49, 50, 51, 52, 53, 54, 55, 56, 57, 97, 98, 99, 100, 101, 102] }, .int .u8 (t[i + 1 + 2].toNat : Int)] (.int .i64 y) (by intro _; simp [go_sem]) (by kernel_rfl) (fun w1 hl => (HX3.out w1)) ?_
            simp only [Act.put, List.setIfInBounds_toArray, List.set_cons_zero, List.set_cons_succ]
            refine wpG_run (by rfl) (by rfl) (.int .i64 (bits .or .i64 (IntKind.i64.wrap (x * 16)) y)) (fun w1 hl => by simp [go_sem]) ?_
            simp only [Act.put, List.setIfInBounds_toArray, List.set_cons_zero, List.set_cons_succ]
            refine wpG_run (by rfl) (by rfl) (.int .u8 (c.toNat : Int)) (fun w1 hl => by simp [go_sem]; exact HCW.out) ?_
            simp only [Act.put, List.setIfInBounds_toArray, List.set_cons_zero, List.set_cons_succ]
            iterate 1 (refine wpG_quiet (by rfl) (by rfl) (by rfl) (fun K hK => ?_); go_big_quiet_op; refine hK _ ?_; clear hK K)
            refine wpG_nil fun w1 hl _ => ?_
            replace hown := hown.later hl
            replace hbr := hbr.trans (hl.mono hbr.size)
            have hi7 : (i : Int) + 1 + 2 + 1 = (i : Int) + 4 := by omega
            clear hl
            go_wp2_with (first
              | (at_builtin
                 refine wpList_app _ rfl (.tmp 51) (.tmp 53) _ rfl w.heap.size 5 i0 _ 1 Tryd.underlying59 hi hz0 hz1 hz2 rfl (.slice A1 m c1) (bvs l) m rfl (by rw [bvs_length, HLM.out]) (hown.alloc _) (w1.heap.size + 1) (some ⟨w1.heap.size, 0, none⟩) 1 (bvs [c]) 1 rfl rfl (sees_lit w1 _ 5 (0, 0) _ rfl) (bvs_one _) (by simp [maxLen]; omega) (by omega) (by have := hbr.size; simp; omega) ?_
                 intro A9 c9 w9 hown9 hb9 hg9 hat9
                 rw [← bvs_append] at hown9
                 have hbr9 : Below w.heap.size w w9 := (hbr.alloc hbr.size _).trans hb9
                 clear hg9 hat9 hb9 hown hbr)
              | fail)
            go_roundw
            case rel => exact ⟨i + 4, m + 1, l ++ [c], by omega, by go_num, by omega, Lib.hid (by rw [List.length_append, HLM.out]; first | done | rfl), ⟨A9, c9, rfl, hown9⟩, hbr9⟩
            case measure => simp [intOf]; omega
          · have hg3 : ¬ (i : Int) + 1 + 2 < (t.size : Int) := by omega
            go_wp2_with (first
              | (at_builtin
                 refine wpList_app _ rfl (.tmp 51) (.tmp 53) _ rfl w.heap.size 5 i0 _ 1 Tryd.underlying59 hi hz0 hz1 hz2 rfl (.slice A1 m c1) (bvs l) m rfl (by rw [bvs_length, HLM.out]) (hown.alloc _) (wr.heap.size + 1) (some ⟨wr.heap.size, 0, none⟩) 1 (bvs [t[i + 1]]) 1 rfl rfl (sees_lit wr _ 5 (0, 0) _ rfl) (bvs_one _) (by simp [maxLen]; omega) (by omega) (by have := hbr.size; simp; omega) ?_
                 intro A9 c9 w9 hown9 hb9 hg9 hat9
                 rw [← bvs_append] at hown9
                 have hbr9 : Below w.heap.size w w9 := (hbr.alloc hbr.size _).trans hb9
                 clear hg9 hat9 hb9 hown hbr)
              | fail)
            go_roundw
            case rel => exact ⟨i + 2, m + 1, l ++ [t[i + 1]], by omega, by go_num, by omega, Lib.hid (by rw [List.length_append, HLM.out]; first | done | rfl), ⟨A9, c9, rfl, hown9⟩, hbr9⟩
            case measure => simp [intOf]; omega
        · have n1 : ((t[i + 1].toNat : Int) == 120) = false := by
            rw [beq_eq_false_iff_ne]; intro e; exact h120 (UInt8.toNat_inj.1 (Int.ofNat_inj.1 e))
          clear h120
          go_wp2_with (first
            | (at_builtin
               refine wpList_app _ rfl (.tmp 51) (.tmp 53) _ rfl w.heap.size 5 i0 _ 1 Tryd.underlying59 hi hz0 hz1 hz2 rfl (.slice A1 m c1) (bvs l) m rfl (by rw [bvs_length, HLM.out]) (hown.alloc _) (wr.heap.size + 1) (some ⟨wr.heap.size, 0, none⟩) 1 (bvs [t[i + 1]]) 1 rfl rfl (sees_lit wr _ 5 (0, 0) _ rfl) (bvs_one _) (by simp [maxLen]; omega) (by omega) (by have := hbr.size; simp; omega) ?_
               intro A9 c9 w9 hown9 hb9 hg9 hat9
               rw [← bvs_append] at hown9
               have hbr9 : Below w.heap.size w w9 := (hbr.alloc hbr.size _).trans hb9
               clear hg9 hat9 hb9 hown hbr)
            | fail)
          go_roundw
          case rel => exact ⟨i + 2, m + 1, l ++ [t[i + 1]], by omega, by go_num, by omega, Lib.hid (by rw [List.length_append, HLM.out]; first | done | rfl), ⟨A9, c9, rfl, hown9⟩, hbr9⟩
          case measure => simp [intOf]; omega
      · have n0 : ((t[i].toNat : Int) != 92) = true := by
          rw [bne_iff_ne]; intro e; exact h92 (UInt8.toNat_inj.1 (Int.ofNat_inj.1 e))
        clear h92
        go_wp2_with (first
          | (at_builtin
             refine wpList_app _ rfl (.tmp 18) (.tmp 20) _ rfl w.heap.size 5 i0 _ 1 Tryd.underlying59 hi hz0 hz1 hz2 rfl (.slice A1 m c1) (bvs l) m rfl (by rw [bvs_length, HLM.out]) (hown.alloc _) (wr.heap.size + 1) (some ⟨wr.heap.size, 0, none⟩) 1 (bvs [t[i]]) 1 rfl rfl (sees_lit wr _ 5 (0, 0) _ rfl) (bvs_one _) (by simp [maxLen]; omega) (by omega) (by have := hbr.size; simp; omega) ?_
             intro A9 c9 w9 hown9 hb9 hg9 hat9
             rw [← bvs_append] at hown9
             have hbr9 : Below w.heap.size w w9 := (hbr.alloc hbr.size _).trans hb9
             clear hg9 hat9 hb9 hown hbr)
          | fail)
        go_roundw
        case rel => exact ⟨i + 1, m + 1, l ++ [t[i]], by omega, by go_num, by omega, Lib.hid (by rw [List.length_append, HLM.out]; first | done | rfl), ⟨A9, c9, rfl, hown9⟩, hbr9⟩
        case measure => simp [intOf]; omega
    · have hg : ¬ (i : Int) < (t.size : Int) - 1 := by omega
      have hcv := run_str (P := Tryd.prog) wr wr.heap.size 59 5 9 Tryd.underlying59 Tryd.underlying5 Tryd.underlying9 A1 m c1 l HLM.out hown.sees
      obtain ⟨u, hu⟩ : ∃ u, u = str l := ⟨_, rfl⟩
      rw [← hu] at hcv
      clear hown hu
      go_wp2_with fail
      go_ret
      exact ⟨⟨u, rfl⟩, hbr⟩
end Go.Proofs.YtdpghoobdkhilaaDoor

/- Loads of whole structs under guards, == and != of structs, of values: general. -/
namespace Go.Proofs.YtdpghoobdkhilaaDoor
set_option linter.unusedVariables false
open Go Go.RowKit

section
variable {P : Program} {ops : Array Oper} {rest : List Oper} {op : Oper} {a : Act} {w : World} {Q : Exit → Act → World → Prop}
/-- A load of a whole struct, where its guard lets it. -/
theorem wpList_load_g (hw : Region.wanted op (yielded ops a.tmps) = true) (ty : TypeId) (x : Operand) (ho : op.op = .load ty x)
    (b o : Nat) (hx : a.eval x = .pointer (some ⟨b, o, none⟩)) (cs : List Value) (d : TypeDesc) (hc : w.rangeAt b o cs)
    (hu : P.underlying ty = some d) (hd : d.isRow = true) (hi : (P.info? ty).map (·.size) = some cs.length)
    (h : wpList P ops Q rest (a.put op.dst (.agg cs.toArray)) w) : wpList P ops Q (op :: rest) a w :=
  wpList_step fun K hK => by
    rw [if_pos hw]
    exact wp_load_mid ty x ho b o hx cs d hc hu hd hi (hK _ _ h)
theorem exec_load (ty : TypeId) (x : Operand) (ho : op.op = .load ty x) (b o : Nat) (hx : a.eval x = .pointer (some ⟨b, o, none⟩)) (cs : List Value) (d : TypeDesc) (hc : w.rangeAt b o cs)
    (hu : P.underlying ty = some d) (hd : d.isRow = true) (hi : (P.info? ty).map (·.size) = some cs.length) : (execOp a.eval op).run P w = .ok (.value (.agg cs.toArray)) w := by
  unfold execOp
  simp only [ho, hx, Instr.loadAt, Instr.sureAddr, Sem.run_bind, Sem.run_pure, Result.andThen_ok, run_loadVar_mid w b o ty cs d hc hu hd hi]
end

theorem fieldsV : Tryd.prog.underlying 54 = some (.struct (Tryd.prog.fieldsOf 54)) := by kernel_rfl
theorem list_str (a b : ByteArray) : a.toList = b.toList ↔ a = b := by
  rw [ByteArray.toList_eq, ByteArray.toList_eq]
  constructor
  · intro h
    apply ByteArray.ext
    apply Array.ext'
    exact h
  · rintro rfl; rfl
theorem ite_ok {p : Prop} [Decidable p] (w : World) : (if p then Result.ok true w else Result.ok false w) = Result.ok (decide p) w := by
  by_cases h : p <;> simp [h]

theorem eq_val (d : Nat) (u v : V3) (w : World) : (Op.equalIn (d + 2) 54 (.agg (vcells u).toArray) (.agg (vcells v).toArray)).run Tryd.prog w = .ok (decide (u = v)) w := by
  obtain ⟨a, b, c⟩ := u
  obtain ⟨a', b', c'⟩ := v
  rw [run_equalIn_agg w (d + 1) 54 _ _ fieldsV (by kernel_rfl)]
  have e : (Tryd.prog.fieldsOf 54).toList = [⟨"Kind", 3, 0, false, "", "", 0⟩, ⟨"N", 3, 1, false, "", "", 8⟩, ⟨"S", 9, 2, false, "", "", 16⟩] := by kernel_rfl
  rw [e]
  simp only [vcells, Op.eqFields]
  simp [go_sem, part, isAgg]
  by_cases h1 : a = a' <;> by_cases h2 : b = b' <;> simp [h1, h2, list_str, ite_ok]

section
variable {P : Program} {ops : Array Oper} {rest : List Oper} {op : Oper} {a : Act} {w : World} {Q : Exit → Act → World → Prop}
/-- An operation by its run. -/
theorem wpList_exec (hw : Region.wanted op (yielded ops a.tmps) = true) (v : Value) (he : (execOp a.eval op).run P w = .ok (.value v) w)
    (h : wpList P ops Q rest (a.put op.dst v) w) : wpList P ops Q (op :: rest) a w :=
  wpList_step fun K hK => by
    rw [if_pos hw]
    unfold Oper.wp
    rw [he]
    exact hK _ _ h
theorem exec_eql (t u : TypeId) (x y : Operand) (ho : op.op = .binOp .eql t x y u) (xs ys : Array Value) (hx : a.eval x = .agg xs) (hy : a.eval y = .agg ys)
    (hg : P.eqGuardType P.depth t = false) (b : Bool) (hr : (Op.equalIn 10000 t (.agg xs) (.agg ys)).run P w = .ok b w) : (execOp a.eval op).run P w = .ok (.value (.bool b)) w := by
  unfold execOp
  simp only [ho, hx, hy, Sem.run_bind, run_eqGuard_agg w _ _ _ _ _ _ hg, run_eql_struct, hr, Result.andThen_ok, Sem.run_pure]
theorem exec_neq (t u : TypeId) (x y : Operand) (ho : op.op = .binOp .neq t x y u) (xs ys : Array Value) (hx : a.eval x = .agg xs) (hy : a.eval y = .agg ys)
    (hg : P.eqGuardType P.depth t = false) (b : Bool) (hr : (Op.equalIn 10000 t (.agg xs) (.agg ys)).run P w = .ok b w) : (execOp a.eval op).run P w = .ok (.value (.bool (!b))) w := by
  unfold execOp
  simp only [ho, hx, hy, Sem.run_bind, run_eqGuard_agg w _ _ _ _ _ _ hg, run_neq_struct, hr, Result.andThen_ok, Sem.run_pure]
end

theorem guard_val : Tryd.prog.eqGuardType Tryd.prog.depth 54 = false := by kernel_rfl
end Go.Proofs.YtdpghoobdkhilaaDoor

/- What Read returns of a value's text. -/
namespace Go.Proofs.YtdpghoobdkhilaaDoor
set_option linter.unusedVariables false
open Go Go.RowKit BitM MskM ValM

theorem Blk.whole {w : World} {g : Nat} {cs ds : List Value} (h : Blk w g cs) (hl : ds.length = cs.length) : Blk (w.setCells g 0 ds) g ds := by
  have h2 := h.sets ds 0 (by omega)
  rw [List.take_zero, List.nil_append, List.drop_eq_nil_of_le (by omega), List.append_nil] at h2
  exact h2
theorem results_blk_tmp {P : Program} {fn : Func} {p q : Tmp} {ty : TypeId} (h : fn.results = #[.cell q ty, .tmp p]) (tmps : Array Value) (w : World) (g : Nat) (cs : List Value) (d : TypeDesc) (v : Value) (hp : tmps.getD p undef = v)
    (hq : tmps.getD q undef = .pointer (some ⟨g, 0, none⟩)) (hB : Blk w g cs)
    (hu : P.underlying ty = some d) (hd : (match d with | .struct _ | .array _ _ => true | _ => false) = true) (hi : (P.info? ty).map (·.size) = some cs.length) :
    (results fn tmps).run P w = .ok (.tuple #[.agg cs.toArray, v]) w := by
  obtain ⟨t, hB⟩ := hB
  subst hp
  have hq' : tmps[q]?.getD undef = .pointer (some ⟨g, 0, none⟩) := by simpa using hq
  simp [results, h, hq', asAddr, run_loadVar_row w g t ty cs.toArray (0, 0) d hB hu hd (by simpa using hi)]

def zval : V3 := (0, 0, ⟨#[]⟩)
/-- The world behind two new values. -/
theorem two_news (w : World) : ∃ W, W = (w.alloc (.cells (vcells zval).toArray 54)).alloc (.cells (vcells zval).toArray 54) ∧ Blk W w.heap.size (vcells zval) ∧ Blk W (w.heap.size + 1) (vcells zval) ∧ Below w.heap.size w W := by
  refine ⟨_, rfl, (Blk.new w (vcells zval) 54).alloc _, ?_, ((Below.refl w.heap.size w).alloc (Nat.le_refl _) _).alloc (by simp) _⟩
  have := Blk.new (w.alloc (.cells (vcells zval).toArray 54)) (vcells zval) 54
  have hs1 : (w.alloc (.cells (vcells zval).toArray 54)).heap.size = w.heap.size + 1 := by simp
  rw [hs1] at this
  exact this

set_option maxRecDepth 100000 in
set_option maxHeartbeats 3200000 in
theorem vread_text (s t : ByteArray) (w : World) (hs : s.size ≤ 24) (ht : Tab w) (he : t = str (quo s.data.toList)) : Calls Tryd.prog 22 #[.string t] w fun e w' => e = .returned (.tuple #[.agg (vcells (2, 0, s)).toArray, .bool true]) ∧ Below w.heap.size w w' := by
  have hl : s.data.toList.length = s.size := by simp
  have htd : t.data.toList = quo s.data.toList := by rw [he]; rfl
  have HSH := Lib.hid (fun (wx : World) (hb : Below w.heap.size w wx) => (show Calls Tryd.prog 31 #[.agg (vcells (2, 0, s)).toArray] wx fun e w' => e = .returned (.string t) ∧ Below wx.heap.size wx w' from by
    have h1 := vshow_any (2, 0, s) wx (ht.later hb)
    have h2 : vshow (2, 0, s) = quo s.data.toList := by unfold vshow; rw [if_neg (by rw [vchk_2]; simp [hs])]; rfl
    rw [h2, ← he] at h1
    exact h1))
  have HUQ := Lib.hid (fun (wx : World) => unquote_any t s.data.toList wx htd (by omega))
  have hstr : str s.data.toList = s := rfl
  rw [hstr] at HUQ
  have hq4 := qug_len s.data.toList
  have hsz : t.data.toList.length = t.size := by simp
  have h98 : t.size ≤ 98 := by rw [← hsz, htd]; unfold quo; simp; omega
  have h2 : 2 ≤ t.size := by rw [← hsz, htd]; unfold quo; simp
  have hh : t.data.toList = 34 :: (qug s.data.toList ++ [34]) := by rw [htd]; rfl
  obtain ⟨l0, e0, _⟩ := byte_of (i := 0) (by rw [List.drop_zero]; exact hh)
  have n0 : ((t[0].toNat : Int) == 34) = true := by rw [e0]; rfl
  have n1 : t.toList.isEmpty = false := by rw [ByteArray.toList_eq, hh]; rfl
  have n1b : ¬ t.toList = [] := by rw [ByteArray.toList_eq, hh]; simp
  have n2 : (t.toList == [45]) = false := by rw [ByteArray.toList_eq, hh]; rfl
  have n2b : ¬ t.toList = [45] := by rw [ByteArray.toList_eq, hh]; simp
  have hu := Tryd.underlying54
  obtain ⟨W, hW, B0, B1, hb⟩ := two_news w
  subst hW
  clear he htd hstr hq4 hsz hh e0 hl ht
  go_enter Tryd.func22, Tryd.ntmps22
  go_wp2_with fail
  refine (HUQ.out _).mono ?_
  rintro e w1 ⟨rfl, hb1⟩
  replace B0 := B0.later hb1
  replace B1 := B1.later hb1
  replace hb := hb.trans (hb1.mono hb.size)
  clear hb1
  obtain ⟨ds, hds⟩ : ∃ ds, ds = vcells (2, 0, s) := ⟨_, rfl⟩
  have HDS := Lib.hid hds
  have T1 := B1.there 0 3 (Nat.le_refl _)
  have HO : (vcells (2, 0, s)).toArray.all (·.oneCell') = true := all_oneCell_toArray (by intro v hv; simp only [vcells, List.mem_cons, List.not_mem_nil, or_false] at hv; rcases hv with rfl | rfl | rfl <;> rfl)
  have S1 := B1.whole (ds := vcells (2, 0, s)) rfl
  have S0 := Blk.setsOther (b := w.heap.size + 1) (by omega) (vcells (2, 0, s)) 0 B0
  have EB := below_sets (B := w.heap.size) (b := w.heap.size + 1) (by omega) (vcells (2, 0, s)) 0 hb
  clear B0 B1 hb hds
  go_wp2_with (first
    | (refine wpList_store_mid rfl 54 (.tmp 4) (.tmp 36) rfl (w.heap.size + 1) 0 (vcells (2, 0, s)).toArray rfl rfl T1 info_val HO ?_
       simp only [Act.put]
       generalize hw4 : World.setCells w1 (w.heap.size + 1) 0 (vcells (2, 0, s)).toArray.toList = w4
       have e4 : World.setCells w1 (w.heap.size + 1) 0 (vcells (2, 0, s)) = w4 := hw4
       rw [e4] at S0 S1 EB
       clear hw4 e4 T1
       have R1 := S1.valR)
    | (refine wpList_load_mid rfl 54 (.tmp 4) rfl (w.heap.size + 1) 0 rfl (vcells (2, 0, s)) _ R1 hu rfl info_val ?_)
    | fail)
  refine (HSH.out _ EB).mono ?_
  rintro e w5 ⟨rfl, hb5⟩
  replace S0 := S0.later hb5
  replace S1 := S1.later hb5
  replace EB := EB.trans (hb5.mono EB.size)
  have T0 := S0.there 0 3 (Nat.le_refl _)
  replace R1 := S1.valR
  have F0 := S0.whole (ds := vcells (2, 0, s)) rfl
  have FB := below_sets (B := w.heap.size) (b := w.heap.size) (Nat.le_refl _) (vcells (2, 0, s)) 0 EB
  clear hb5 S0 S1 EB
  go_wp2_with (first
    | (refine wpList_load_mid rfl 54 (.tmp 4) rfl (w.heap.size + 1) 0 rfl (vcells (2, 0, s)) _ R1 hu rfl info_val ?_)
    | (refine wpList_store_mid rfl 54 (.tmp 2) (.tmp 42) rfl w.heap.size 0 (vcells (2, 0, s)).toArray rfl rfl T0 info_val HO ?_
       simp only [Act.put]
       generalize hw6 : World.setCells w5 w.heap.size 0 (vcells (2, 0, s)).toArray.toList = w6
       have e6 : World.setCells w5 w.heap.size 0 (vcells (2, 0, s)) = w6 := hw6
       rw [e6] at F0 FB
       clear hw6 e6 T0 R1)
    | fail)
  exact bodyPost_ret (v := .tuple #[.agg (vcells (2, 0, s)).toArray, .bool true]) (results_blk_tmp (p := 3) (q := 2) rfl _ _ w.heap.size (vcells (2, 0, s)) _ _ rfl rfl F0 hu rfl info_val) rfl ⟨rfl, FB⟩

set_option maxRecDepth 100000 in
set_option maxHeartbeats 3200000 in
theorem vread_num (n : Int) (t : ByteArray) (w : World) (h0 : 0 ≤ n) (h1 : n ≤ 1099511627776) (ht : Tab w) (he : t = str (Lib.itoa n)) : Calls Tryd.prog 22 #[.string t] w fun e w' => e = .returned (.tuple #[.agg (vcells (1, n, empty)).toArray, .bool true]) ∧ Below w.heap.size w w' := by
  have htd : t.data.toList = Lib.itoa n := by rw [he]; rfl
  have HSH := Lib.hid (fun (wx : World) (hb : Below w.heap.size w wx) => (show Calls Tryd.prog 31 #[.agg (vcells (1, n, empty)).toArray] wx fun e w' => e = .returned (.string t) ∧ Below wx.heap.size wx w' from by
    have h2 := vshow_any (1, n, empty) wx (ht.later hb)
    have h3 : vshow (1, n, empty) = Lib.itoa n := by unfold vshow; rw [if_neg (by unfold vchk; simp [h0, h1])]; rfl
    rw [h3, ← he] at h2
    exact h2))
  have HIN := Lib.hid (fun wx : World => (show Calls Tryd.prog 20 #[.string t, .int .i64 1099511627776] wx fun e w' => e = .returned (.tuple #[.int .i64 n, .bool true]) ∧ Below wx.heap.size wx w' from by
    have h2 := int_any t 1099511627776 wx
    rw [htd, pint_itoa n h0 h1] at h2
    exact h2.mono fun e w' h => ⟨h.1, h.2 ▸ Below.refl _ _⟩))
  obtain ⟨k, hk⟩ := Int.eq_ofNat_of_zero_le h0
  have hi : Lib.itoa n = Lib.decDigits k := by unfold Lib.itoa; rw [if_neg (by omega), hk, Int.toNat_natCast]
  obtain ⟨_, f2, f3, _⟩ := dec_facts k k (Nat.le_refl _)
  have hlen := dec_len 12 k (by omega)
  have hsz : t.data.toList.length = t.size := by simp
  have h98 : t.size ≤ 98 := by rw [← hsz, htd, hi]; omega
  rw [hi] at htd
  obtain ⟨c, l, hcl⟩ : ∃ c l, Lib.decDigits k = c :: l := by
    cases hd : Lib.decDigits k with
    | nil => exact absurd hd f3
    | cons c l => exact ⟨c, l, rfl⟩
  rw [hcl] at htd f2
  rw [List.all_cons, Bool.and_eq_true] at f2
  have hdig := f2.1
  unfold dig at hdig
  simp only [Bool.and_eq_true, decide_eq_true_eq] at hdig
  have h2 : 1 ≤ t.size := by rw [← hsz, htd]; simp
  obtain ⟨l0, e0, _⟩ := byte_of (i := 0) (by rw [List.drop_zero]; exact htd)
  have n0 : ((t[0].toNat : Int) == 34) = false := by rw [e0, beq_eq_false_iff_ne]; omega
  have c45 : c ≠ 45 := by rintro rfl; exact absurd hdig.1 (by decide)
  have n1 : t.toList.isEmpty = false := by rw [ByteArray.toList_eq, htd]; rfl
  have n1b : ¬ t.toList = [] := by rw [ByteArray.toList_eq, htd]; simp
  have n2b : ¬ t.toList = [45] := by rw [ByteArray.toList_eq, htd]; simp [c45]
  have n2 : (t.toList == [45]) = false := by rw [beq_eq_false_iff_ne]; exact n2b
  have hu := Tryd.underlying54
  obtain ⟨W, hW, B0, B1, hb⟩ := two_news w
  subst hW
  clear he htd hsz e0 ht hk hi f2 f3 hlen hcl hdig c45 h0 h1
  go_enter Tryd.func22, Tryd.ntmps22
  go_wp2_with fail
  refine (HIN.out _).mono ?_
  rintro e w1 ⟨rfl, hb1⟩
  replace B0 := B0.later hb1
  replace B1 := B1.later hb1
  replace hb := hb.trans (hb1.mono hb.size)
  clear hb1
  obtain ⟨ds, hds⟩ : ∃ ds, ds = vcells (1, n, empty) := ⟨_, rfl⟩
  have HDS := Lib.hid hds
  have T1 := B1.there 0 3 (Nat.le_refl _)
  have HO : (vcells (1, n, empty)).toArray.all (·.oneCell') = true := all_oneCell_toArray (by intro v hv; simp only [vcells, List.mem_cons, List.not_mem_nil, or_false] at hv; rcases hv with rfl | rfl | rfl <;> rfl)
  have S1 := B1.whole (ds := vcells (1, n, empty)) rfl
  have S0 := Blk.setsOther (b := w.heap.size + 1) (by omega) (vcells (1, n, empty)) 0 B0
  have EB := below_sets (B := w.heap.size) (b := w.heap.size + 1) (by omega) (vcells (1, n, empty)) 0 hb
  clear B0 B1 hb hds
  go_wp2_with (first
    | (refine wpList_store_mid rfl 54 (.tmp 4) (.tmp 16) rfl (w.heap.size + 1) 0 (vcells (1, n, empty)).toArray rfl rfl T1 info_val HO ?_
       simp only [Act.put]
       generalize hw4 : World.setCells w1 (w.heap.size + 1) 0 (vcells (1, n, empty)).toArray.toList = w4
       have e4 : World.setCells w1 (w.heap.size + 1) 0 (vcells (1, n, empty)) = w4 := hw4
       rw [e4] at S0 S1 EB
       clear hw4 e4 T1
       have R1 := S1.valR)
    | (refine wpList_load_mid rfl 54 (.tmp 4) rfl (w.heap.size + 1) 0 rfl (vcells (1, n, empty)) _ R1 hu rfl info_val ?_)
    | fail)
  refine (HSH.out _ EB).mono ?_
  rintro e w5 ⟨rfl, hb5⟩
  replace S0 := S0.later hb5
  replace S1 := S1.later hb5
  replace EB := EB.trans (hb5.mono EB.size)
  have T0 := S0.there 0 3 (Nat.le_refl _)
  replace R1 := S1.valR
  have F0 := S0.whole (ds := vcells (1, n, empty)) rfl
  have FB := below_sets (B := w.heap.size) (b := w.heap.size) (Nat.le_refl _) (vcells (1, n, empty)) 0 EB
  clear hb5 S0 S1 EB
  go_wp2_with (first
    | (refine wpList_load_mid rfl 54 (.tmp 4) rfl (w.heap.size + 1) 0 rfl (vcells (1, n, empty)) _ R1 hu rfl info_val ?_)
    | (refine wpList_store_mid rfl 54 (.tmp 2) (.tmp 42) rfl w.heap.size 0 (vcells (1, n, empty)).toArray rfl rfl T0 info_val HO ?_
       simp only [Act.put]
       generalize hw6 : World.setCells w5 w.heap.size 0 (vcells (1, n, empty)).toArray.toList = w6
       have e6 : World.setCells w5 w.heap.size 0 (vcells (1, n, empty)) = w6 := hw6
       rw [e6] at F0 FB
       clear hw6 e6 T0 R1)
    | fail)
  exact bodyPost_ret (v := .tuple #[.agg (vcells (1, n, empty)).toArray, .bool true]) (results_blk_tmp (p := 3) (q := 2) rfl _ _ w.heap.size (vcells (1, n, empty)) _ _ rfl rfl F0 hu rfl info_val) rfl ⟨rfl, FB⟩
end Go.Proofs.YtdpghoobdkhilaaDoor

/- A value that may be is read of its text; unlike ones have unlike texts. -/
namespace Go.Proofs.YtdpghoobdkhilaaDoor
set_option linter.unusedVariables false
open Go Go.RowKit BitM MskM ValM

set_option maxRecDepth 100000 in
set_option maxHeartbeats 3200000 in
theorem vread_nil (w : World) : Calls Tryd.prog 22 #[.string ⟨#[45]⟩] w fun e w' => e = .returned (.tuple #[.agg (vcells zval).toArray, .bool true]) ∧ Below w.heap.size w w' := by
  have hu := Tryd.underlying54
  obtain ⟨W, hW, B0, B1, hb⟩ := two_news w
  subst hW
  have HO : (vcells zval).toArray.all (·.oneCell') = true := all_oneCell_toArray (by intro v hv; simp only [vcells, List.mem_cons, List.not_mem_nil, or_false] at hv; rcases hv with rfl | rfl | rfl <;> rfl)
  have T0 := B0.there 0 3 (Nat.le_refl _)
  have R1 := B1.valR
  have F0 := B0.whole (ds := vcells zval) rfl
  have FB := below_sets (B := w.heap.size) (b := w.heap.size) (Nat.le_refl _) (vcells zval) 0 hb
  go_enter Tryd.func22, Tryd.ntmps22
  go_wp2_with (first
    | (refine wpList_load_mid rfl 54 (.tmp 4) rfl (w.heap.size + 1) 0 rfl (vcells zval) _ R1 hu rfl info_val ?_)
    | (refine wpList_store_mid rfl 54 (.tmp 2) (.tmp 29) rfl w.heap.size 0 (vcells zval).toArray rfl rfl T0 info_val HO ?_
       simp only [Act.put]
       generalize hw6 : World.setCells _ w.heap.size 0 (vcells zval).toArray.toList = w6
       have F1 : Blk w6 w.heap.size (vcells zval) := hw6 ▸ F0
       have FB1 : Below w.heap.size w w6 := hw6 ▸ FB
       clear hw6 T0 R1 F0 FB)
    | fail)
  exact bodyPost_ret (v := .tuple #[.agg (vcells zval).toArray, .bool true]) (results_blk_tmp (p := 3) (q := 2) rfl _ _ w.heap.size (vcells zval) _ _ rfl rfl F1 hu rfl info_val) rfl ⟨rfl, FB1⟩

theorem vread_back (a : V3) (t : ByteArray) (w : World) (hc : vchk a = true) (ht : Tab w) (he : t = str (vshow a)) : Calls Tryd.prog 22 #[.string t] w fun e w' => e = .returned (.tuple #[.agg (vcells a).toArray, .bool true]) ∧ Below w.heap.size w w' := by
  obtain ⟨k, n, s⟩ := a
  have hv : vshow (k, n, s) = if k = 1 then Lib.itoa n else if k = 2 then quo s.data.toList else [45] := by unfold vshow; rw [if_neg (by rw [hc]; simp)]
  rw [hv] at he
  rcases vchk_kind k n s hc with rfl | rfl | rfl
  · obtain ⟨rfl, rfl⟩ := vchk_nil n s hc
    subst he
    exact vread_nil w
  · obtain ⟨h0, h1, rfl⟩ := vchk_num n s hc
    exact vread_num n t w h0 h1 ht he
  · obtain ⟨rfl, h1⟩ := vchk_txt n s hc
    exact vread_text s t w h1 ht he

theorem itoa_digs (n : Int) (h0 : 0 ≤ n) : (Lib.itoa n).all dig = true ∧ Lib.itoa n ≠ [] := by
  obtain ⟨k, rfl⟩ := Int.eq_ofNat_of_zero_le h0
  have hi : Lib.itoa (k : Int) = Lib.decDigits k := by unfold Lib.itoa; rw [if_neg (by omega), Int.toNat_natCast]
  rw [hi]
  exact ⟨(dec_facts k k (Nat.le_refl _)).2.1, (dec_facts k k (Nat.le_refl _)).2.2.1⟩
theorem itoa_not {n : Int} (h0 : 0 ≤ n) {c : UInt8} {l : List UInt8} (hc : dig c = false) : Lib.itoa n ≠ c :: l := by
  intro e
  have h := (itoa_digs n h0).1
  rw [e, List.all_cons, hc] at h
  cases h
theorem vshow_of (k n : Int) (s : ByteArray) (h : vchk (k, n, s) = true) : (vshow (k, n, s) = [45] ∧ k = 0 ∧ n = 0 ∧ s = empty) ∨ (vshow (k, n, s) = Lib.itoa n ∧ k = 1 ∧ 0 ≤ n ∧ n ≤ 1099511627776 ∧ s = empty) ∨ (vshow (k, n, s) = quo s.data.toList ∧ k = 2 ∧ n = 0) := by
  have hv : vshow (k, n, s) = if k = 1 then Lib.itoa n else if k = 2 then quo s.data.toList else [45] := by unfold vshow; rw [if_neg (by rw [h]; simp)]
  rcases vchk_kind k n s h with rfl | rfl | rfl
  · obtain ⟨rfl, rfl⟩ := vchk_nil n s h
    exact .inl ⟨hv, rfl, rfl, rfl⟩
  · obtain ⟨h0, h1, rfl⟩ := vchk_num n s h
    exact .inr (.inl ⟨hv, rfl, h0, h1, rfl⟩)
  · obtain ⟨rfl, h1⟩ := vchk_txt n s h
    exact .inr (.inr ⟨hv, rfl, rfl⟩)
theorem quo_head (l : List UInt8) : quo l = 34 :: (qug l ++ [34]) := rfl
theorem vshow_inj (a b : V3) (ha : vchk a = true) (hb : vchk b = true) (h : vshow a = vshow b) : a = b := by
  obtain ⟨k, n, s⟩ := a
  obtain ⟨k', n', s'⟩ := b
  rcases vshow_of k n s ha with ⟨e, rfl, rfl, rfl⟩ | ⟨e, rfl, h0, h1, rfl⟩ | ⟨e, rfl, rfl⟩ <;> rcases vshow_of k' n' s' hb with ⟨e', rfl, rfl, rfl⟩ | ⟨e', rfl, h0', h1', rfl⟩ | ⟨e', rfl, rfl⟩ <;> replace h := (e.symm.trans h).trans e'
  · rfl
  · exact absurd h.symm (itoa_not h0' (by decide))
  · rw [quo_head] at h; simp at h
  · exact absurd h (itoa_not h0 (by decide))
  · have p1 := pint_itoa n h0 h1
    rw [h, pint_itoa n' h0' h1'] at p1
    injection p1 with p1 _
    rw [p1]
  · rw [quo_head] at h
    exact absurd h (itoa_not h0 (by decide))
  · rw [quo_head] at h; simp at h
  · rw [quo_head] at h
    exact absurd h.symm (itoa_not h0' (by decide))
  · have := quo_inj h
    have e2 : s = s' := by
      apply ByteArray.ext
      apply Array.ext'
      exact this
    rw [e2]
theorem vshow_eq (a b : V3) (ha : vchk a = true) (hb : vchk b = true) : ((str (vshow a)).toList == (str (vshow b)).toList) = decide (a = b) := by
  have e1 : ∀ l : List UInt8, (str l).toList = l := fun l => by rw [ByteArray.toList_eq]; rfl
  rw [e1, e1, Bool.eq_iff_iff, beq_iff_eq, decide_eq_true_eq]
  exact ⟨vshow_inj a b ha hb, fun h => by rw [h]⟩
end Go.Proofs.YtdpghoobdkhilaaDoor

/- value.Read of a text that is no value's. -/
namespace Go.Proofs.YtdpghoobdkhilaaDoor
set_option linter.unusedVariables false
open Go Go.RowKit BitM MskM ValM

/-- No value has this text. -/
def NoVal (t : ByteArray) : Prop := ∀ a : V3, vchk a = true → vshow a ≠ t.data.toList
theorem not_show {t : ByteArray} (v : V3) (h : NoVal t) (hne : t.data.toList ≠ []) : ((str (vshow v)).toList != t.toList) = true := by
  have e1 : ∀ l : List UInt8, (str l).toList = l := fun l => by rw [ByteArray.toList_eq]; rfl
  rw [e1, ByteArray.toList_eq, bne_iff_ne]
  cases hc : vchk v
  · have : vshow v = [] := by unfold vshow; rw [if_pos hc]
    rw [this]
    exact fun e => hne e.symm
  · exact h v hc

set_option maxRecDepth 100000 in
set_option maxHeartbeats 3200000 in
theorem vread_no (t : ByteArray) (w : World) (hx : t.size ≤ 1000) (ht : Tab w) (hn : NoVal t) : Calls Tryd.prog 22 #[.string t] w fun e w' => e = .returned (.tuple #[.agg (vcells zval).toArray, .bool false]) ∧ Below w.heap.size w w' := by
  have HNV := Lib.hid hn
  have HTB := Lib.hid ht
  have hu := Tryd.underlying54
  have hsz : t.data.toList.length = t.size := by simp
  have HUQ := Lib.hid (fun (wx : World) => unquote_some t wx hx)
  have HIN := Lib.hid (fun wx : World => (show Calls Tryd.prog 20 #[.string t, .int .i64 1099511627776] wx fun e w' => e = .returned (.tuple #[.int .i64 (pint t.data.toList 1099511627776).1, .bool (pint t.data.toList 1099511627776).2]) ∧ Below wx.heap.size wx w' from
    (int_any t 1099511627776 wx).mono fun e w' h => ⟨h.1, h.2 ▸ Below.refl _ _⟩))
  obtain ⟨W, hW, B0, B1, hb⟩ := two_news w
  subst hW
  by_cases h0 : t.data.toList = []
  · have n1 : t.toList.isEmpty = true := by rw [ByteArray.toList_eq, h0]; rfl
    have n1b : t.toList = [] := by rw [ByteArray.toList_eq, h0]
    have z0 : t.size = 0 := by rw [← hsz, h0]; rfl
    clear hsz ht hn h0
    go_enter Tryd.func22, Tryd.ntmps22
    have HOZ : (vcells zval).toArray.all (·.oneCell') = true := all_oneCell_toArray (by intro v hv; simp only [vcells, List.mem_cons, List.not_mem_nil, or_false] at hv; rcases hv with rfl | rfl | rfl <;> rfl)
    have T0 := B0.there 0 3 (Nat.le_refl _)
    have R1 := B1.valR
    have F0 := B0.whole (ds := vcells zval) rfl
    have FB := below_sets (B := w.heap.size) (b := w.heap.size) (Nat.le_refl _) (vcells zval) 0 hb
    clear B0 B1 hb
    go_wp2_with (first
      | (refine wpList_load_mid rfl 54 (.tmp 4) rfl (w.heap.size + 1) 0 rfl (vcells zval) _ R1 hu rfl info_val ?_)
      | (refine wpList_store_mid rfl 54 (.tmp 2) (.tmp 25) rfl w.heap.size 0 (vcells zval).toArray rfl rfl T0 info_val HOZ ?_
         simp only [Act.put]
         generalize hw6 : World.setCells _ w.heap.size 0 (vcells zval).toArray.toList = w6
         have F1 : Blk w6 w.heap.size (vcells zval) := hw6 ▸ F0
         have FB1 : Below w.heap.size w w6 := hw6 ▸ FB
         clear hw6 T0 R1 F0 FB)
      | fail)
    exact bodyPost_ret (v := .tuple #[.agg (vcells zval).toArray, .bool false]) (results_blk_tmp (p := 3) (q := 2) rfl _ _ w.heap.size (vcells zval) _ _ rfl rfl F1 hu rfl info_val) rfl ⟨rfl, FB1⟩
  · have hne := h0
    have n1 : t.toList.isEmpty = false := by rw [ByteArray.toList_eq, List.isEmpty_eq_false_iff]; exact h0
    have n1b : ¬ t.toList = [] := by rw [ByteArray.toList_eq]; exact h0
    have hpos : 0 < t.size := by
      rw [← hsz]; exact List.length_pos_iff.2 h0
    have n2b : ¬ t.toList = [45] := by
      rw [ByteArray.toList_eq]
      intro e
      exact hn zval (by decide +kernel) (by rw [e]; decide +kernel)
    have n2 : (t.toList == [45]) = false := by rw [beq_eq_false_iff_ne]; exact n2b
    have HNE := Lib.hid hne
    clear hsz ht hn h0 hne
    by_cases h98 : t.size ≤ 98
    · by_cases h34 : t[0] = 34
      · have n0 : ((t[0].toNat : Int) == 34) = true := by rw [h34]; rfl
        clear h34
        go_enter Tryd.func22, Tryd.ntmps22
        go_wp2_with fail
        refine (HUQ.out _).mono ?_
        rintro e w1 ⟨⟨p, rfl⟩, hb1⟩
        replace B0 := B0.later hb1
        replace B1 := B1.later hb1
        replace hb := hb.trans (hb1.mono hb.size)
        clear hb1
        have hne := HNE.out
        have HSH := Lib.hid (fun (wx : World) (hb : Below w.heap.size w wx) => (show Calls Tryd.prog 31 #[.agg (vcells (2, 0, p)).toArray] wx fun e w' => e = .returned (.string (str (vshow (2, 0, p)))) ∧ Below wx.heap.size wx w' from vshow_any (2, 0, p) wx (HTB.out.later hb)))
        have hneq := not_show (2, 0, p) HNV.out hne
        obtain ⟨su, hsu⟩ : ∃ su, su = str (vshow (2, 0, p)) := ⟨_, rfl⟩
        rw [← hsu] at HSH hneq
        have hneq2 : (su.toList == t.toList) = false := by simpa using hneq
        clear hsu
        clear hne
        have HO : (vcells (2, 0, p)).toArray.all (·.oneCell') = true := all_oneCell_toArray (by intro v hv; simp only [vcells, List.mem_cons, List.not_mem_nil, or_false] at hv; rcases hv with rfl | rfl | rfl <;> rfl)
        have HOZ : (vcells zval).toArray.all (·.oneCell') = true := all_oneCell_toArray (by intro v hv; simp only [vcells, List.mem_cons, List.not_mem_nil, or_false] at hv; rcases hv with rfl | rfl | rfl <;> rfl)
        have T1 := B1.there 0 3 (Nat.le_refl _)
        have S1 := B1.whole (ds := vcells (2, 0, p)) rfl
        have S0 := Blk.setsOther (b := w.heap.size + 1) (by omega) (vcells (2, 0, p)) 0 B0
        have EB := below_sets (B := w.heap.size) (b := w.heap.size + 1) (by omega) (vcells (2, 0, p)) 0 hb
        clear B0 B1 hb
        go_wp2_with (first
          | (refine wpList_store_mid rfl 54 (.tmp 4) (.tmp 36) rfl (w.heap.size + 1) 0 (vcells (2, 0, p)).toArray rfl rfl T1 info_val HO ?_
             simp only [Act.put]
             generalize hw4 : World.setCells w1 (w.heap.size + 1) 0 (vcells (2, 0, p)).toArray.toList = w4
             have e4 : World.setCells w1 (w.heap.size + 1) 0 (vcells (2, 0, p)) = w4 := hw4
             rw [e4] at S0 S1 EB
             clear hw4 e4 T1
             have R1 := S1.valR)
          | (refine wpList_load_mid rfl 54 (.tmp 4) rfl (w.heap.size + 1) 0 rfl (vcells (2, 0, p)) _ R1 hu rfl info_val ?_)
          | fail)
        refine (HSH.out _ EB).mono ?_
        rintro e w5 ⟨rfl, hb5⟩
        replace S0 := S0.later hb5
        replace S1 := S1.later hb5
        replace EB := EB.trans (hb5.mono EB.size)
        have T0 := S0.there 0 3 (Nat.le_refl _)
        replace R1 := S1.valR
        have F0 := S0.whole (ds := vcells zval) rfl
        have FB := below_sets (B := w.heap.size) (b := w.heap.size) (Nat.le_refl _) (vcells zval) 0 EB
        clear hb5 S0 S1 EB
        go_wp2_with (first
          | (refine wpList_store_mid rfl 54 (.tmp 2) (.tmp 41) rfl w.heap.size 0 (vcells zval).toArray rfl rfl T0 info_val HOZ ?_
             simp only [Act.put]
             generalize hw6 : World.setCells w5 w.heap.size 0 (vcells zval).toArray.toList = w6
             have e6 : World.setCells w5 w.heap.size 0 (vcells zval) = w6 := hw6
             rw [e6] at F0 FB
             clear hw6 e6 T0 R1)
          | fail)
        exact bodyPost_ret (v := .tuple #[.agg (vcells zval).toArray, .bool false]) (results_blk_tmp (p := 3) (q := 2) rfl _ _ w.heap.size (vcells zval) _ _ rfl rfl F0 hu rfl info_val) rfl ⟨rfl, FB⟩
      · have n0 : ((t[0].toNat : Int) == 34) = false := by
          rw [beq_eq_false_iff_ne]; intro e; exact h34 (UInt8.toNat_inj.1 (Int.ofNat_inj.1 e))
        clear h34
        obtain ⟨q, hq⟩ : ∃ q, q = pint t.data.toList 1099511627776 := ⟨_, rfl⟩
        rw [← hq] at HIN
        clear hq
        obtain ⟨n, ok⟩ := q
        simp only at HIN
        cases ok
        · go_enter Tryd.func22, Tryd.ntmps22
          go_wp2_with fail
          refine (HIN.out _).mono ?_
          rintro e w1 ⟨rfl, hb1⟩
          replace B0 := B0.later hb1
          replace B1 := B1.later hb1
          replace hb := hb.trans (hb1.mono hb.size)
          clear hb1
          have HOZ : (vcells zval).toArray.all (·.oneCell') = true := all_oneCell_toArray (by intro v hv; simp only [vcells, List.mem_cons, List.not_mem_nil, or_false] at hv; rcases hv with rfl | rfl | rfl <;> rfl)
          have T0 := B0.there 0 3 (Nat.le_refl _)
          have R1 := B1.valR
          have F0 := B0.whole (ds := vcells zval) rfl
          have FB := below_sets (B := w.heap.size) (b := w.heap.size) (Nat.le_refl _) (vcells zval) 0 hb
          clear B0 B1 hb
          go_wp2_with (first
            | (refine wpList_load_mid rfl 54 (.tmp 4) rfl (w.heap.size + 1) 0 rfl (vcells zval) _ R1 hu rfl info_val ?_)
            | (refine wpList_store_mid rfl 54 (.tmp 2) (.tmp 14) rfl w.heap.size 0 (vcells zval).toArray rfl rfl T0 info_val HOZ ?_
               simp only [Act.put]
               generalize hw6 : World.setCells _ w.heap.size 0 (vcells zval).toArray.toList = w6
               have F1 : Blk w6 w.heap.size (vcells zval) := hw6 ▸ F0
               have FB1 : Below w.heap.size w w6 := hw6 ▸ FB
               clear hw6 T0 R1 F0 FB)
            | fail)
          exact bodyPost_ret (v := .tuple #[.agg (vcells zval).toArray, .bool false]) (results_blk_tmp (p := 3) (q := 2) rfl _ _ w.heap.size (vcells zval) _ _ rfl rfl F1 hu rfl info_val) rfl ⟨rfl, FB1⟩
        · go_enter Tryd.func22, Tryd.ntmps22
          go_wp2_with fail
          refine (HIN.out _).mono ?_
          rintro e w1 ⟨rfl, hb1⟩
          replace B0 := B0.later hb1
          replace B1 := B1.later hb1
          replace hb := hb.trans (hb1.mono hb.size)
          clear hb1
          have hne := HNE.out
          have HSH := Lib.hid (fun (wx : World) (hb : Below w.heap.size w wx) => (show Calls Tryd.prog 31 #[.agg (vcells (1, n, empty)).toArray] wx fun e w' => e = .returned (.string (str (vshow (1, n, empty)))) ∧ Below wx.heap.size wx w' from vshow_any (1, n, empty) wx (HTB.out.later hb)))
          have hneq := not_show (1, n, empty) HNV.out hne
          obtain ⟨su, hsu⟩ : ∃ su, su = str (vshow (1, n, empty)) := ⟨_, rfl⟩
          rw [← hsu] at HSH hneq
          have hneq2 : (su.toList == t.toList) = false := by simpa using hneq
          clear hsu
          clear hne
          have HO : (vcells (1, n, empty)).toArray.all (·.oneCell') = true := all_oneCell_toArray (by intro v hv; simp only [vcells, List.mem_cons, List.not_mem_nil, or_false] at hv; rcases hv with rfl | rfl | rfl <;> rfl)
          have HOZ : (vcells zval).toArray.all (·.oneCell') = true := all_oneCell_toArray (by intro v hv; simp only [vcells, List.mem_cons, List.not_mem_nil, or_false] at hv; rcases hv with rfl | rfl | rfl <;> rfl)
          have T1 := B1.there 0 3 (Nat.le_refl _)
          have S1 := B1.whole (ds := vcells (1, n, empty)) rfl
          have S0 := Blk.setsOther (b := w.heap.size + 1) (by omega) (vcells (1, n, empty)) 0 B0
          have EB := below_sets (B := w.heap.size) (b := w.heap.size + 1) (by omega) (vcells (1, n, empty)) 0 hb
          clear B0 B1 hb
          go_wp2_with (first
            | (refine wpList_store_mid rfl 54 (.tmp 4) (.tmp 16) rfl (w.heap.size + 1) 0 (vcells (1, n, empty)).toArray rfl rfl T1 info_val HO ?_
               simp only [Act.put]
               generalize hw4 : World.setCells w1 (w.heap.size + 1) 0 (vcells (1, n, empty)).toArray.toList = w4
               have e4 : World.setCells w1 (w.heap.size + 1) 0 (vcells (1, n, empty)) = w4 := hw4
               rw [e4] at S0 S1 EB
               clear hw4 e4 T1
               have R1 := S1.valR)
            | (refine wpList_load_mid rfl 54 (.tmp 4) rfl (w.heap.size + 1) 0 rfl (vcells (1, n, empty)) _ R1 hu rfl info_val ?_)
            | fail)
          refine (HSH.out _ EB).mono ?_
          rintro e w5 ⟨rfl, hb5⟩
          replace S0 := S0.later hb5
          replace S1 := S1.later hb5
          replace EB := EB.trans (hb5.mono EB.size)
          have T0 := S0.there 0 3 (Nat.le_refl _)
          replace R1 := S1.valR
          have F0 := S0.whole (ds := vcells zval) rfl
          have FB := below_sets (B := w.heap.size) (b := w.heap.size) (Nat.le_refl _) (vcells zval) 0 EB
          clear hb5 S0 S1 EB
          go_wp2_with (first
            | (refine wpList_store_mid rfl 54 (.tmp 2) (.tmp 41) rfl w.heap.size 0 (vcells zval).toArray rfl rfl T0 info_val HOZ ?_
               simp only [Act.put]
               generalize hw6 : World.setCells w5 w.heap.size 0 (vcells zval).toArray.toList = w6
               have e6 : World.setCells w5 w.heap.size 0 (vcells zval) = w6 := hw6
               rw [e6] at F0 FB
               clear hw6 e6 T0 R1)
            | fail)
          exact bodyPost_ret (v := .tuple #[.agg (vcells zval).toArray, .bool false]) (results_blk_tmp (p := 3) (q := 2) rfl _ _ w.heap.size (vcells zval) _ _ rfl rfl F0 hu rfl info_val) rfl ⟨rfl, FB⟩
    · have h98i : (98 : Int) < (t.size : Int) := by omega
      go_enter Tryd.func22, Tryd.ntmps22
      have HOZ : (vcells zval).toArray.all (·.oneCell') = true := all_oneCell_toArray (by intro v hv; simp only [vcells, List.mem_cons, List.not_mem_nil, or_false] at hv; rcases hv with rfl | rfl | rfl <;> rfl)
      have T0 := B0.there 0 3 (Nat.le_refl _)
      have R1 := B1.valR
      have F0 := B0.whole (ds := vcells zval) rfl
      have FB := below_sets (B := w.heap.size) (b := w.heap.size) (Nat.le_refl _) (vcells zval) 0 hb
      clear B0 B1 hb
      go_wp2_with (first
        | (refine wpList_load_mid rfl 54 (.tmp 4) rfl (w.heap.size + 1) 0 rfl (vcells zval) _ R1 hu rfl info_val ?_)
        | (refine wpList_store_mid rfl 54 (.tmp 2) (.tmp 25) rfl w.heap.size 0 (vcells zval).toArray rfl rfl T0 info_val HOZ ?_
           simp only [Act.put]
           generalize hw6 : World.setCells _ w.heap.size 0 (vcells zval).toArray.toList = w6
           have F1 : Blk w6 w.heap.size (vcells zval) := hw6 ▸ F0
           have FB1 : Below w.heap.size w w6 := hw6 ▸ FB
           clear hw6 T0 R1 F0 FB)
        | fail)
      exact bodyPost_ret (v := .tuple #[.agg (vcells zval).toArray, .bool false]) (results_blk_tmp (p := 3) (q := 2) rfl _ _ w.heap.size (vcells zval) _ _ rfl rfl F1 hu rfl info_val) rfl ⟨rfl, FB1⟩
end Go.Proofs.YtdpghoobdkhilaaDoor
