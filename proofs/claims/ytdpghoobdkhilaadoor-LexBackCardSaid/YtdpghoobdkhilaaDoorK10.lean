/- Words that are put one behind the other are those words again: the walk of LexBack. -/
import Derived.Test.YtdpghoobdkhilaaDoorK9
import Derived.Test.YtdpghoobdkhilaaDoorK8
namespace Go.Proofs.YtdpghoobdkhilaaDoor
set_option linter.unusedVariables false
set_option linter.unusedSimpArgs false
open Go Go.RowKit BitM MskM ValM LexM

set_option maxRecDepth 100000 in
set_option maxHeartbeats 6400000 in
theorem walk_lexback (t : ByteArray) (A1 : Option Addr) (m c1 : Nat) (l : List Int) (w : World) (hm : t.size ≤ 9223372036854775807) (hl : l.length = m) (hs : Sees w w.heap.size A1 (ivs l)) (hmx : m ≤ maxLen) (ht : Tab w) :
    Calls Tryd.prog 4 #[.string t, .slice A1 m c1] w fun e w' => e = .returned (.bool true) ∧ Below w.heap.size w w' := by
  unfold maxLen at hmx
  have HA := Lib.hid (fun (wx : World) (hb : Below w.heap.size w wx) => law_any wx (ht.later hb))
  have HOUT := Lib.hid (out_good t)
  obtain ⟨WL, hL⟩ : ∃ L, L = outL t := ⟨_, rfl⟩
  obtain ⟨at_, hat⟩ : ∃ a, a = ((outA t : Nat) : Int) := ⟨_, rfl⟩
  obtain ⟨er, her⟩ : ∃ a, a = outE t := ⟨_, rfl⟩
  obtain ⟨n, hn⟩ : ∃ n, n = WL.length := ⟨_, rfl⟩
  have hn1 : n ≤ 1000 := by rw [hn, hL]; exact outL_len t w ht
  have HT := Lib.hid ht
  have H2 : Hid (Calls Tryd.prog 7 #[.string t] w fun e w' => ∃ A c, e = .returned (.tuple #[.slice A n c, .int .i64 at_, .int .i64 er]) ∧ w'.ownsRow w.heap.size 38 4 (.slice A n c) n (lcs WL) ∧ Below w.heap.size w w') := Lib.hid (by
    rw [hn, hat, her, hL]
    exact (rall_out t w ht hm).mono fun e w' h => h)
  rw [← hL] at HOUT
  have HLN := Lib.hid hn
  have HLL := Lib.hid hl
  clear hL hat her hn ht hl
  by_cases he : er = 0 ∧ n ≠ 0 ∧ m ≤ 30
  · obtain ⟨rfl, hn0, hm30⟩ := he
    have hnp : 0 < n := by omega
    have n0 : (((n : Nat) : Int) == 0) = false := by rw [beq_eq_false_iff_ne]; omega
    have n0b : (n == 0) = false := by rw [beq_eq_false_iff_ne]; omega
    have m30 : ¬ (30 : Int) < (m : Int) := by omega
    have hu := Tryd.underlying38
    obtain ⟨i1, ji, jz0, jz1, jz2⟩ := info_parts info_rlws
    clear hn0
    go_enter Tryd.func4, Tryd.ntmps4
    go_wp2_with fail
    refine H2.out.mono ?_
    rintro e w1 ⟨A, c, rfl, hr1, hb1⟩
    have HR0 := Lib.hid (row_lit w1 w1.heap.size 38 4 0 #[] (Nat.le_refl _) (by simp [maxLen]) rfl)
    have HB01 := Lib.hid hb1
    have HSE := Lib.hid (fun (wx : World) (hb : Below w1.heap.size w1 wx) => ((row_sees hr1).below hb).more hb.size)
    have hz1 := hb1.size
    clear H2 hr1 hb1
    go_wp2_with fail
    go_loopw [8, 9, 10] (fun s v i wr => ∃ (k : Nat) (tb : ByteArray) (A9 : Option Addr) (c9 : Nat), k ≤ m ∧ i = .int .i64 k ∧ s = .string tb ∧ v = .slice A9 k c9 ∧ tb.size ≤ 5001 * k ∧ Hid (tb.data.toList = (comp ((l.take k).map (pick WL n))).1) ∧ wr.ownsRow w1.heap.size 38 4 (.slice A9 k c9) k (lcs (comp ((l.take k).map (pick WL n))).2) ∧ Below w1.heap.size w1 wr) (fun _ _ i _ => m - (intOf i).toNat)
    case atStart => exact ⟨0, ⟨#[]⟩, _, 0, Nat.zero_le _, rfl, rfl, rfl, Nat.le_refl 0, Lib.hid rfl, HR0.out, (Below.refl _ w1).alloc (Nat.le_refl _) _⟩
    case round =>
      clear HR0
      obtain ⟨k, tb, A9, c9, hk, rfl, rfl, rfl, htb, HTB, hrow, hbr1⟩ := hrel
      have hbr := HB01.out.trans (hbr1.mono HB01.out.size)
      by_cases hlt : k < m
      · have d1 : decide ((k : Int) < (m : Int)) = true := by simp; omega
        have hki0 : (0 : Int) ≤ (k : Int) := by omega
        have hki : (k : Int) < (m : Int) := by omega
        have hkl : k < l.length := by rw [HLL.out]; exact hlt
        obtain ⟨b, o, rfl, hb, hck⟩ := (hs.below hbr).int k hkl
        obtain ⟨v, hv⟩ : ∃ v, v = l[k] := ⟨_, rfl⟩
        rw [← hv] at hck
        obtain ⟨q, hq⟩ : ∃ q, q = (v % 1024).toNat := ⟨_, rfl⟩
        have hand : bits .and .i64 v 1023 = ((q : Nat) : Int) := by rw [hq]; exact i64_and1023 v
        obtain ⟨r, hr⟩ : ∃ r, r = q % n := ⟨_, rfl⟩
        have hrn : r < n := by rw [hr]; exact Nat.mod_lt _ hnp
        have hmod : ((q : Nat) : Int) % ((n : Nat) : Int) = ((r : Nat) : Int) := by rw [hr]; rfl
        have htmod : Int.tmod ((q : Nat) : Int) ((n : Nat) : Int) = ((r : Nat) : Int) := by rw [hr]; exact Int.ofNat_tmod q n
        have hrl : r < WL.length := by rw [← HLN.out]; exact hrn
        have hri0 : (0 : Int) ≤ (r : Int) := by omega
        have hri : (r : Int) < (n : Int) := by omega
        obtain ⟨b2, o2, rfl, hb2, k0, k1, k2, k3, hrg⟩ := sees_word (HSE.out wr hbr1) r hrl
        have hpick : pick WL n v = WL[r] := by
          unfold pick
          rw [← hq, ← hr]
          simp [hrl]
        obtain ⟨hgx, hsx⟩ := HOUT.out WL[r] (List.getElem_mem _)
        obtain ⟨x, hx⟩ : ∃ x, x = WL[r] := ⟨_, rfl⟩
        rw [← hx] at hrg hgx hsx hpick
        have hwl := wtxt_len hgx hsx
        have HTAKE : Hid ((l.take (k + 1)).map (pick WL n) = (l.take k).map (pick WL n) ++ [x]) := Lib.hid (by rw [List.take_succ_eq_append_getElem hkl, List.map_append, List.map_singleton, ← hv, hpick])
        obtain ⟨ws, hws⟩ : ∃ ws, ws = (l.take k).map (pick WL n) := ⟨_, rfl⟩
        rw [← hws] at HTAKE HTB hrow
        have hwsl : (comp ws).2.length = k := by rw [comp_len2, hws, List.length_map, List.length_take]; omega
        have HCS := Lib.hid (comp_snoc ws x)
        have hsnoc := comp_snoc ws x
        obtain ⟨x0, x1, x2, x3⟩ := x
        -- the text with its blank
        have HTX := Lib.hid (fun (wx : World) (y : Int) => rtext_any (x0, x1, y, x3) wx (by
          rcases hgx with h | h | h | h
          · exact .inl h
          · exact .inr (.inl h)
          · exact .inr (.inr (.inl h))
          · exact .inr (.inr (.inr h))) hsx)
        have hwt : ∀ y : Int, wtxt (x0, x1, y, x3) = wtxt (x0, x1, x2, x3) := fun y => rfl
        obtain ⟨wt, hwt0⟩ : ∃ wt, wt = wtxt (x0, x1, x2, x3) := ⟨_, rfl⟩
        have HTX2 : Hid (∀ (wx : World) (y : Int), Calls Tryd.prog 10 #[.agg #[.int .i64 x0, .int .i64 x1, .int .i64 y, .string x3]] wx fun e w' => e = .returned (.string (str wt)) ∧ Below wx.heap.size wx w') := Lib.hid (fun wx y => by
          have h := HTX.out wx y
          rw [hwt y, ← hwt0] at h
          exact h)
        have hwtl : (str wt).size ≤ 5000 := by
          have : (str wt).size = wt.length := rfl
          rw [this, hwt0]; exact hwl
        obtain ⟨tl, htl⟩ : ∃ tl, tl = (comp ws).1 := ⟨_, rfl⟩
        have hsz : tb.data.toList.length = tb.size := by simp
        have HROW := Lib.hid hrow
        have HB := Lib.hid hbr
        have HB1 := Lib.hid hbr1
        have HZR := Lib.hid hbr1.size
        have HNB := Lib.hid (show (Value.slice A9 k c9).ownBlock ≠ some wr.heap.size from fun e => by have := (hrow.lt _ e).2; omega)
        have htb2 : tb.size ≤ 160000 := by omega
        have hk30 : k ≤ 30 := by omega
        clear k0 k1 k2 k3
        clear hv hq hr hx hws HTX hwt hrow hbr hbr1 hpick hrl hkl hsnoc
        obtain ⟨W3, hW3, TH, F3, B3, z3⟩ := word_put wr 38 (x0, x1, x2, x3)
        subst hW3
        have ON := wcells4_one (x0, x1, x2, x3)
        have B13 := Lib.hid (HB1.out.trans (B3.mono HB1.out.size))
        have BB3 := Lib.hid (HB.out.trans (B3.mono HB.out.size))
        have R3 := Lib.hid (row_later HROW.out B3)
        clear B3 z3 HROW HB HB1
        by_cases h0 : tb.size = 0
        · have d0 : ¬ (0 : Int) < (tb.size : Int) := by omega
          have d0b : ¬ 0 < tb.size := by omega
          have HC : Hid (comp (ws ++ [(x0, x1, x2, x3)]) = (wt, (comp ws).2 ++ [(x0, x1, 0, x3)])) := Lib.hid (by
            have e : (comp ws).1 = [] := by rw [← HTB.out]; exact List.length_eq_zero_iff.1 (by omega)
            rw [HCS.out]
            simp only [e, if_true, List.nil_append]
            rw [hwt0]
            rfl)
          have HT0 : Hid ((tb ++ str wt).data.toList = wt) := Lib.hid (by
            have e : tb.data.toList = [] := List.length_eq_zero_iff.1 (by omega)
            rw [ByteArray.data_append, Array.toList_append, e]
            rfl)
          have hte : (((tb.size : Nat) : Int)) = 0 := by omega
          have HNC : Hid (lcs (comp ws).2 ++ [.int .i64 x0, .int .i64 x1, .int .i64 0, .string x3] = lcs (comp (ws ++ [(x0, x1, x2, x3)])).2) := Lib.hid (by rw [HC.out, lcs_snoc]; rfl)
          clear hsz h0 HCS htl hwt0
          go_wp2_with (first
            | (refine wpList_load_mid rfl 38 (.tmp 50) rfl b2 (o2 + r * 4) rfl (wcells4 (x0, x1, x2, x3)) _ hrg hu rfl info_rlw ?_)
            | (refine wpList_store_mid rfl 38 (.tmp 11) (.tmp 51) rfl wr.heap.size 0 (wcells4 (x0, x1, x2, x3)).toArray rfl rfl TH info_rlw ON ?_
               simp only [Act.put]
               generalize hw4 : World.setCells _ wr.heap.size 0 (wcells4 (x0, x1, x2, x3)).toArray.toList = w4
               have F4 : Blk w4 wr.heap.size (wcells4 (x0, x1, x2, x3)) := hw4 ▸ F3
               have B14 : Below w1.heap.size w1 w4 := hw4 ▸ B13.out
               have BB4 : Below w.heap.size w w4 := hw4 ▸ BB3.out
               have R4 : w4.ownsRow w1.heap.size 38 4 (.slice A9 k c9) k (lcs (comp ws).2) := hw4 ▸ R3.out
               have q2 := F4.cell (j := 2) rfl
               have f2 := F4.frozen 2
               have S4 := F4.set 2 (.int .i64 (0))
               have hg4 : w1.heap.size ≤ wr.heap.size := HZR.out
               have B15 := Lib.hid (B14.setCell (p := ⟨wr.heap.size, 2, none⟩) hg4 (.int .i64 (0)))
               have BB5 := Lib.hid (BB4.setCell (p := ⟨wr.heap.size, 2, none⟩) (by show w.heap.size ≤ wr.heap.size; omega) (.int .i64 (0)))
               have R5 := Lib.hid (row_other R4 HNB.out 2 (.int .i64 (0)))
               have R6 := S4.range 0 [.int .i64 x0, .int .i64 x1, .int .i64 (0), .string x3] rfl
               clear hw4 TH F3 B13 BB3 R3 F4 B14 BB4 R4)
            | (refine wpList_load_mid rfl 38 (.tmp 11) rfl wr.heap.size 0 rfl [.int .i64 x0, .int .i64 x1, .int .i64 (0), .string x3] _ R6 hu rfl info_rlw ?_)
            | fail)
          refine (HTX2.out _ _).mono ?_
          rintro e w6 ⟨rfl, hb6⟩
          have S6 := S4.later hb6
          have R7 := S6.range 0 [.int .i64 x0, .int .i64 x1, .int .i64 (0), .string x3] rfl
          have BB6 := Lib.hid (BB5.out.trans (hb6.mono BB5.out.size))
          have B16 := Lib.hid (B15.out.trans (hb6.mono B15.out.size))
          have RE2 := Lib.hid (World.ownsRow.alloc (row_later R5.out hb6) (.cells #[.int .i64 x0, .int .i64 x1, .int .i64 (0), .string x3] 38))
          have hz6 := B16.out.size
          have hsA : (tb : ByteArray).size ≤ 160001 := by omega
          clear hb6 S4 S6 B15 BB5 R5 q2 f2 HTX2 hwl hgx hsx hrg R6
          go_wp2_with (first
            | (refine wpList_load_mid rfl 38 (.tmp 11) rfl wr.heap.size 0 rfl [.int .i64 x0, .int .i64 x1, .int .i64 (0), .string x3] _ R7 hu rfl info_rlw ?_)
            | (at_builtin
               refine wpList_appk _ rfl (.tmp 64) (.tmp 66) 27 rfl w1.heap.size 38 i1 _ 4 40 Tryd.underlying27 ji jz0 jz1 jz2 rfl (by decide) (.slice A9 k c9) k (lcs (comp ws).2) rfl RE2.out (w6.heap.size + 1) (some ⟨w6.heap.size, 0, none⟩) 1 [.int .i64 x0, .int .i64 x1, .int .i64 (0), .string x3] 1 rfl rfl (sees_lit w6 #[.int .i64 x0, .int .i64 x1, .int .i64 (0), .string x3] 38 (0, 0) [.int .i64 x0, .int .i64 x1, .int .i64 (0), .string x3] rfl) (by simp [Value.oneCell']) (by unfold maxLen; omega) (by omega) (by simp; omega) ?_
               intro A3 c3 w7 hr3 hb7 hg3 hat3)
            | fail)
          rw [HNC.out] at hr3
          have b67 := (Below.refl w6.heap.size w6).alloc (Nat.le_refl _) (.cells #[.int .i64 x0, .int .i64 x1, .int .i64 (0), .string x3] 38)
          have BZ := Lib.hid (B16.out.trans ((b67.mono B16.out.size).trans hb7))
          clear hb7 hg3 hat3 RE2 b67 R7
          go_roundw
          case rel => exact ⟨k + 1, tb ++ str wt, A3, c3, by omega, by go_num, rfl, rfl, by rw [ByteArray.size_append]; omega, Lib.hid (by rw [HTAKE.out, HC.out]; exact HT0.out), by rw [HTAKE.out]; exact hr3, BZ.out⟩
          case measure => simp [intOf]; omega
        · have d0 : (0 : Int) < (tb.size : Int) := by omega
          have d0b : 0 < tb.size := by omega
          have HC : Hid (comp (ws ++ [(x0, x1, x2, x3)]) = (tb.data.toList ++ [32] ++ wt, (comp ws).2 ++ [(x0, x1, ((tb.size : Nat) : Int) + 1, x3)])) := Lib.hid (by
            have e : (comp ws).1 ≠ [] := by
              rw [← HTB.out]
              intro e
              rw [e] at hsz
              simp at hsz
              omega
            rw [HCS.out]
            simp only [e, if_false]
            rw [← HTB.out, hwt0, List.length_append, hsz]
            rfl)
          have HT0 : Hid (((tb ++ ⟨#[32]⟩) ++ str wt).data.toList = tb.data.toList ++ [32] ++ wt) := Lib.hid (by
            rw [ByteArray.data_append, Array.toList_append, ByteArray.data_append, Array.toList_append]
            rfl)
          have hsp : (tb ++ (⟨#[32]⟩ : ByteArray)).size = tb.size + 1 := by rw [ByteArray.size_append]; rfl
          have HNC : Hid (lcs (comp ws).2 ++ [.int .i64 x0, .int .i64 x1, .int .i64 (((tb.size : Nat) : Int) + 1), .string x3] = lcs (comp (ws ++ [(x0, x1, x2, x3)])).2) := Lib.hid (by rw [HC.out, lcs_snoc]; rfl)
          clear hsz h0 HCS htl hwt0
          go_wp2_with (first
            | (refine wpList_load_mid rfl 38 (.tmp 50) rfl b2 (o2 + r * 4) rfl (wcells4 (x0, x1, x2, x3)) _ hrg hu rfl info_rlw ?_)
            | (refine wpList_store_mid rfl 38 (.tmp 11) (.tmp 51) rfl wr.heap.size 0 (wcells4 (x0, x1, x2, x3)).toArray rfl rfl TH info_rlw ON ?_
               simp only [Act.put]
               generalize hw4 : World.setCells _ wr.heap.size 0 (wcells4 (x0, x1, x2, x3)).toArray.toList = w4
               have F4 : Blk w4 wr.heap.size (wcells4 (x0, x1, x2, x3)) := hw4 ▸ F3
               have B14 : Below w1.heap.size w1 w4 := hw4 ▸ B13.out
               have BB4 : Below w.heap.size w w4 := hw4 ▸ BB3.out
               have R4 : w4.ownsRow w1.heap.size 38 4 (.slice A9 k c9) k (lcs (comp ws).2) := hw4 ▸ R3.out
               have q2 := F4.cell (j := 2) rfl
               have f2 := F4.frozen 2
               have S4 := F4.set 2 (.int .i64 (((tb.size : Nat) : Int) + 1))
               have hg4 : w1.heap.size ≤ wr.heap.size := HZR.out
               have B15 := Lib.hid (B14.setCell (p := ⟨wr.heap.size, 2, none⟩) hg4 (.int .i64 (((tb.size : Nat) : Int) + 1)))
               have BB5 := Lib.hid (BB4.setCell (p := ⟨wr.heap.size, 2, none⟩) (by show w.heap.size ≤ wr.heap.size; omega) (.int .i64 (((tb.size : Nat) : Int) + 1)))
               have R5 := Lib.hid (row_other R4 HNB.out 2 (.int .i64 (((tb.size : Nat) : Int) + 1)))
               have R6 := S4.range 0 [.int .i64 x0, .int .i64 x1, .int .i64 (((tb.size : Nat) : Int) + 1), .string x3] rfl
               clear hw4 TH F3 B13 BB3 R3 F4 B14 BB4 R4)
            | (refine wpList_load_mid rfl 38 (.tmp 11) rfl wr.heap.size 0 rfl [.int .i64 x0, .int .i64 x1, .int .i64 (((tb.size : Nat) : Int) + 1), .string x3] _ R6 hu rfl info_rlw ?_)
            | fail)
          refine (HTX2.out _ _).mono ?_
          rintro e w6 ⟨rfl, hb6⟩
          have S6 := S4.later hb6
          have R7 := S6.range 0 [.int .i64 x0, .int .i64 x1, .int .i64 (((tb.size : Nat) : Int) + 1), .string x3] rfl
          have BB6 := Lib.hid (BB5.out.trans (hb6.mono BB5.out.size))
          have B16 := Lib.hid (B15.out.trans (hb6.mono B15.out.size))
          have RE2 := Lib.hid (World.ownsRow.alloc (row_later R5.out hb6) (.cells #[.int .i64 x0, .int .i64 x1, .int .i64 (((tb.size : Nat) : Int) + 1), .string x3] 38))
          have hz6 := B16.out.size
          have hsA : ((tb ++ ⟨#[32]⟩) : ByteArray).size ≤ 160001 := by omega
          clear hb6 S4 S6 B15 BB5 R5 q2 f2 HTX2 hwl hgx hsx hrg R6
          go_wp2_with (first
            | (refine wpList_load_mid rfl 38 (.tmp 11) rfl wr.heap.size 0 rfl [.int .i64 x0, .int .i64 x1, .int .i64 (((tb.size : Nat) : Int) + 1), .string x3] _ R7 hu rfl info_rlw ?_)
            | (at_builtin
               refine wpList_appk _ rfl (.tmp 64) (.tmp 66) 27 rfl w1.heap.size 38 i1 _ 4 40 Tryd.underlying27 ji jz0 jz1 jz2 rfl (by decide) (.slice A9 k c9) k (lcs (comp ws).2) rfl RE2.out (w6.heap.size + 1) (some ⟨w6.heap.size, 0, none⟩) 1 [.int .i64 x0, .int .i64 x1, .int .i64 (((tb.size : Nat) : Int) + 1), .string x3] 1 rfl rfl (sees_lit w6 #[.int .i64 x0, .int .i64 x1, .int .i64 (((tb.size : Nat) : Int) + 1), .string x3] 38 (0, 0) [.int .i64 x0, .int .i64 x1, .int .i64 (((tb.size : Nat) : Int) + 1), .string x3] rfl) (by simp [Value.oneCell']) (by unfold maxLen; omega) (by omega) (by simp; omega) ?_
               intro A3 c3 w7 hr3 hb7 hg3 hat3)
            | fail)
          rw [HNC.out] at hr3
          have b67 := (Below.refl w6.heap.size w6).alloc (Nat.le_refl _) (.cells #[.int .i64 x0, .int .i64 x1, .int .i64 (((tb.size : Nat) : Int) + 1), .string x3] 38)
          have BZ := Lib.hid (B16.out.trans ((b67.mono B16.out.size).trans hb7))
          clear hb7 hg3 hat3 RE2 b67 R7
          go_roundw
          case rel => exact ⟨k + 1, (tb ++ ⟨#[32]⟩) ++ str wt, A3, c3, by omega, by go_num, rfl, rfl, by rw [ByteArray.size_append]; omega, Lib.hid (by rw [HTAKE.out, HC.out]; exact HT0.out), by rw [HTAKE.out]; exact hr3, BZ.out⟩
          case measure => simp [intOf]; omega
      · obtain rfl : k = m := by omega
        have d1 : decide ((k : Int) < (k : Int)) = false := by simp
        have HWS : Hid ((l.take k).map (pick WL n) = l.map (pick WL n)) := Lib.hid (by rw [List.take_of_length_le (by rw [HLL.out]; exact Nat.le_refl _)])
        rw [HWS.out] at HTB hrow
        obtain ⟨ws, hws⟩ : ∃ ws, ws = l.map (pick WL n) := ⟨_, rfl⟩
        have HG : Hid (∀ x ∈ ws, LexM.Good x) := Lib.hid (by
          rw [hws]
          intro x hx
          obtain ⟨v, _, rfl⟩ := List.mem_map.1 hx
          unfold pick
          have hlt : (v % 1024).toNat % n < WL.length := by rw [← HLN.out]; exact Nat.mod_lt _ hnp
          rw [List.getD_eq_getElem?_getD, List.getElem?_eq_getElem hlt]
          exact (HOUT.out _ (List.getElem_mem _)).1)
        have hwl : (comp ws).2.length = k := by rw [comp_len2, hws, List.length_map, HLL.out]
        rw [← hws] at HTB hrow
        clear hws HWS
        have HROW := Lib.hid hrow
        have HB := Lib.hid hbr
        have HWL := Lib.hid hwl
        clear hrow hbr hbr1 hwl
        by_cases hbig : 1000 < tb.size
        · have e1 : (1000 : Int) < (tb.size : Int) := by omega
          go_wp2_with fail
          refine (HA.out _ HB.out).mono ?_
          rintro e w5 ⟨rfl, hb5⟩
          have HB5 := Lib.hid (HB.out.trans (hb5.mono HB.out.size))
          clear hb5
          go_wp2_with fail
          go_ret
          exact ⟨rfl, HB5.out⟩
        · have e1 : ¬ (1000 : Int) < (tb.size : Int) := by omega
          have HALL : Hid (∀ wx, Below w.heap.size w wx → Calls Tryd.prog 6 #[.string tb] wx fun e w' => ∃ A c, e = .returned (.tuple #[.slice A k c, .int .i64 0, .int .i64 0]) ∧ w'.ownsRow wx.heap.size 34 4 (.slice A k c) k (lcs (comp ws).2) ∧ Below wx.heap.size wx w') := Lib.hid (fun wx hb => by
            refine (all_out tb wx (HT.out.later hb) (by omega)).mono fun e w' h => ?_
            have hall := comp_all ws HG.out tb HTB.out
            have g1 : outL tb = (comp ws).2 := by unfold outL; rw [if_pos (by omega), hall]
            have g2 : outA tb = 0 := by unfold outA; rw [if_pos (by omega), hall]
            have g3 : outE tb = 0 := by unfold outE; rw [if_pos (by omega), hall]
            unfold AllOut at h
            rw [g1, g2, g3, HWL.out] at h
            exact h)
          go_wp2_with fail
          refine (HALL.out _ HB.out).mono ?_
          rintro e w5 ⟨A5, c5, rfl, hr5, hb5⟩
          have HB5 := Lib.hid (HB.out.trans (hb5.mono HB.out.size))
          have HR9 := Lib.hid (row_later HROW.out hb5)
          have HSM := Lib.hid (wsame_yes A5 k c5 A9 c9 (comp ws).2 w5 HWL.out (row_sees hr5) (row_sees HR9.out) (by omega))
          clear hr5 hb5
          go_wp2_with fail
          refine HSM.out.mono ?_
          rintro e w6 ⟨rfl, hb6⟩
          have HB6 := Lib.hid (HB5.out.trans (hb6.mono HB5.out.size))
          clear hb6
          go_wp2_with fail
          refine (HA.out _ HB6.out).mono ?_
          rintro e w7 ⟨rfl, hb7⟩
          have HB7 := Lib.hid (HB6.out.trans (hb7.mono HB6.out.size))
          clear hb7
          go_wp2_with fail
          go_ret
          exact ⟨rfl, HB7.out⟩
  · -- nothing is asked
    have key : er ≠ 0 ∨ (er = 0 ∧ n = 0) ∨ (er = 0 ∧ n ≠ 0 ∧ ¬ m ≤ 30) := by
      by_cases h1 : er = 0
      · by_cases h2 : n = 0
        · exact .inr (.inl ⟨h1, h2⟩)
        · exact .inr (.inr ⟨h1, h2, fun h3 => he ⟨h1, h2, h3⟩⟩)
      · exact .inl h1
    clear he HOUT HLN HLL HT hs
    rcases key with h | ⟨rfl, h⟩ | ⟨rfl, h, h'⟩
    · have e1 : (er != 0) = true := by simpa using h
      clear h
      go_enter Tryd.func4, Tryd.ntmps4
      go_wp2_with fail
      refine H2.out.mono ?_
      rintro e w1 ⟨A, c, rfl, hr1, hb1⟩
      clear hr1
      go_wp2_with fail
      refine (HA.out _ hb1).mono ?_
      rintro e w2 ⟨rfl, hb2⟩
      have hb3 := hb1.trans (hb2.mono hb1.size)
      clear hb2 hb1
      go_wp2_with fail
      go_ret
      exact ⟨rfl, hb3⟩
    · have e1 : (((n : Nat) : Int) == 0) = true := by rw [h]; rfl
      have e2 : (n == 0) = true := by rw [h]; rfl
      clear h
      go_enter Tryd.func4, Tryd.ntmps4
      go_wp2_with fail
      refine H2.out.mono ?_
      rintro e w1 ⟨A, c, rfl, hr1, hb1⟩
      clear hr1
      go_wp2_with fail
      refine (HA.out _ hb1).mono ?_
      rintro e w2 ⟨rfl, hb2⟩
      have hb3 := hb1.trans (hb2.mono hb1.size)
      clear hb2 hb1
      go_wp2_with fail
      go_ret
      exact ⟨rfl, hb3⟩
    · have e1 : (((n : Nat) : Int) == 0) = false := by rw [beq_eq_false_iff_ne]; omega
      have e2 : (n == 0) = false := by rw [beq_eq_false_iff_ne]; omega
      have e3 : (30 : Int) < (m : Int) := by omega
      clear h h'
      go_enter Tryd.func4, Tryd.ntmps4
      go_wp2_with fail
      refine H2.out.mono ?_
      rintro e w1 ⟨A, c, rfl, hr1, hb1⟩
      clear hr1
      go_wp2_with fail
      refine (HA.out _ hb1).mono ?_
      rintro e w2 ⟨rfl, hb2⟩
      have hb3 := hb1.trans (hb2.mono hb1.size)
      clear hb2 hb1
      go_wp2_with fail
      go_ret
      exact ⟨rfl, hb3⟩
end Go.Proofs.YtdpghoobdkhilaaDoor
