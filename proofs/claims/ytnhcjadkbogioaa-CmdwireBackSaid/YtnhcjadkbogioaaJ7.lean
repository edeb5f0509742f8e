/- Values as bytes: slices.Clone of bytes, PutValue, and the document's. -/
import Derived.Test.YtnhcjadkbogioaaJ3
import Derived.Test.YtnhcjadkbogioaaJ4
import Derived.Test.YtnhcjadkbogioaaJ1
import Derived.Test.YtnhcjadkbogioaaJ6
import Derived.RangeFuncOwn
import Derived.Lib.AppendZeros
import Derived.Test.YtnhcjadkbogioaaJ5
set_option maxRecDepth 100000
set_option linter.unusedVariables false
set_option maxHeartbeats 3200000
namespace Go.Proofs.Ytnhcjadkbogioaa
open Go Go.RowKit OctM
theorem clone_any (A : Option Addr) (n c : Nat) (l : List UInt8) (w : World) (hn : l.length = n) (hs : Sees w w.heap.size A (bvs l)) (hsz : n ≤ 1048576) :
    Calls Try.prog 20 #[.slice A n c] w (GivesBytes w l) := by
  obtain ⟨i0, hi, hz0, hz1, hz2⟩ := oct_parts
  subst hn
  rcases A with _ | ad
  · have hl : l = [] := by
      rcases l with _ | ⟨x, l⟩
      · rfl
      · obtain ⟨b, o, h, _⟩ := hs (by simp [bvs])
        cases h
    subst hl
    have hq := fun wx => Lib.run_eql_slice_nil (P := Try.prog) wx 33 5 none 0 c 0 0 Try.underlying33
    go_enter Try.func20, Try.ntmps20
    go_wp2
    go_ret
    exact ⟨none, 0, rfl, Own.nil_ _ _ _, Below.refl _ _⟩
  · have hq := fun wx => Lib.run_eql_slice_nil (P := Try.prog) wx 33 5 (some ad) l.length c 0 0 Try.underlying33
    go_enter Try.func20, Try.ntmps20
    go_wp2_with (first
      | (at_builtin
         refine wpList_app _ rfl (.tmp 5) (.tmp 6) _ rfl w.heap.size 5 i0 _ 1 Try.underlying33 hi hz0 hz1 hz2 rfl (.slice (some ⟨w.heap.size, 0, none⟩) 0 0) [] 0 rfl rfl (own_lit w w.heap.size 5 #[] (Nat.le_refl _) (by simp [maxLen])) w.heap.size (some ad) c (bvs l) l.length rfl (bvs_length l) (hs.alloc (Nat.le_refl _) _) (bvs_one l) (by simp [maxLen]; omega) (by omega) (by simp) ?_
         intro A1 c1 w1 hown1 hb1 hg1 hat1; simp only [Nat.zero_add, List.nil_append] at hown1 hat1)
      | fail)
    go_ret
    exact ⟨A1, c1, rfl, hown1, ((Below.refl _ _).alloc (Nat.le_refl _) _).trans hb1⟩
def vbs (v : V3) : List UInt8 := if vchk v = false then [] else if v.1 = 1 then enc 1 ++ enc (held v.2.1) else if v.1 = 2 then enc 2 ++ (enc v.2.2.data.toList.length ++ v.2.2.data.toList) else enc 0
theorem str_self (t : ByteArray) : str t.data.toList = t := by
  apply ByteArray.ext
  apply Array.ext'
  rfl
theorem vchk_kind {k n : Int} {s : ByteArray} (h : vchk (k, n, s) = true) : (k = 0 ∨ k = 1 ∨ k = 2) ∧ (k = 2 → s.size ≤ 24) := by
  by_cases h0 : k = 0
  · exact ⟨.inl h0, fun e => by omega⟩
  · by_cases h1 : k = 1
    · exact ⟨.inr (.inl h1), fun e => by omega⟩
    · by_cases h2 : k = 2
      · subst h2
        rw [vchk_2] at h
        exact ⟨.inr (.inr rfl), fun _ => (of_decide_eq_true h).2⟩
      · rw [vchk_3 n s h0 h1 h2] at h; cases h
theorem cell_lt {w : World} {p : Addr} {v : Value} (h : w.cell? p = some v) : p.block < w.heap.size := by
  obtain ⟨o, ho, _⟩ := cells_of_cell h
  exact (Array.getElem?_eq_some_iff.1 ho).1
theorem putval_any (k z : Int) (s : ByteArray) (A : Option Addr) (n c : Nat) (l : List UInt8) (w : World) (hn : l.length = n) (hs : Sees w w.heap.size A (bvs l)) (hm : n ≤ 100000) :
    Calls Try.prog 54 #[.slice A n c, .agg #[.int .i64 k, .int .i64 z, .string s]] w (GivesBytes w (l ++ vbs (k, z, s))) := by
  have HV := hid (fun wx : World => vcheck_any k z s wx)
  have HCL := hid (fun (wx : World) (hb : Below w.heap.size w wx) => clone_any A n c l wx hn ((hs.below hb).more hb.size) (by omega))
  have HNU := hid (fun (y : Int) (wx : World) (hb : Below w.heap.size w wx) => oct_num A n c l y wx hn ((hs.below hb).more hb.size) (by omega))
  have HN := hid hn
  clear hn hs
  have B0 := Blk.new w (vcells (k, z, s)) 24
  have hb0 : Below w.heap.size w (w.alloc (.cells #[.int .i64 k, .int .i64 z, .string s] 24)) := (Below.refl _ w).alloc (Nat.le_refl _) _
  have RG : (w.alloc (.cells #[.int .i64 k, .int .i64 z, .string s] 24)).rangeAt w.heap.size 0 (vcells (k, z, s)) := B0.range 0 _ rfl
  have C0 := hid (fun (wx : World) (hb : Below (w.alloc (.cells #[.int .i64 k, .int .i64 z, .string s] 24)).heap.size (w.alloc (.cells #[.int .i64 k, .int .i64 z, .string s] 24)) wx) => (show wx.cell? ⟨w.heap.size, 0, none⟩ = some (.int .i64 k) from (B0.later hb).cell (j := 0) rfl))
  have C1 := hid (fun (wx : World) (hb : Below (w.alloc (.cells #[.int .i64 k, .int .i64 z, .string s] 24)).heap.size (w.alloc (.cells #[.int .i64 k, .int .i64 z, .string s] 24)) wx) => (show wx.cell? ⟨w.heap.size, 1, none⟩ = some (.int .i64 z) from (B0.later hb).cell (j := 1) rfl))
  have C2 := hid (fun (wx : World) (hb : Below (w.alloc (.cells #[.int .i64 k, .int .i64 z, .string s] 24)).heap.size (w.alloc (.cells #[.int .i64 k, .int .i64 z, .string s] 24)) wx) => (show wx.cell? ⟨w.heap.size, 2, none⟩ = some (.string s) from (B0.later hb).cell (j := 2) rfl))
  have hu := Try.underlying24
  clear B0
  obtain ⟨ok, hok⟩ : ∃ b, b = vchk (k, z, s) := ⟨_, rfl⟩
  rw [← hok] at HV
  cases ok
  · have HB : Hid (l ++ vbs (k, z, s) = l) := hid (by unfold vbs; rw [if_pos hok.symm]; simp)
    rw [HB.out]
    clear HB hok
    go_enter Try.func54, Try.ntmps54
    go_wp2_with fail
    refine (HV.out _).mono ?_
    rintro e w1 ⟨rfl, hb1⟩
    have c0 := C0.out w1 hb1
    have c1 := C1.out w1 hb1
    have c2 := C2.out w1 hb1
    have hbw := hb0.trans (hb1.mono (Nat.le_trans (Nat.le_refl _) (by simp)))
    clear RG hb1 hb0
    clear c0 c1 c2
    go_wp2_with fail
    refine (HCL.out _ hbw).mono ?_
    rintro e w2 ⟨A2, c2, rfl, ho, hb2⟩
    go_wp2_with fail
    go_ret
    exact ⟨A2, c2, rfl, ho.lower hbw.size, hbw.trans (hb2.mono hbw.size)⟩
  · obtain ⟨hk, hs24⟩ := vchk_kind hok.symm
    have HVB : Hid (vbs (k, z, s) = if k = 1 then enc 1 ++ enc (held z) else if k = 2 then enc 2 ++ (enc s.data.toList.length ++ s.data.toList) else enc 0) := hid (by unfold vbs; rw [if_neg (by rw [← hok]; simp)])
    clear hok
    rcases hk with rfl | rfl | rfl
    · obtain ⟨r1, hr1⟩ : ∃ r, r = l ++ enc (held 0) := ⟨_, rfl⟩
      have hrl : r1.length ≤ n + 6 := by rw [hr1, List.length_append, HN.out]; have := held_len 0; omega
      have HNU1 := hid (HNU.out 0)
      rw [← hr1] at HNU1
      have HB : Hid (l ++ vbs (0, z, s) = r1) := hid (by rw [HVB.out, if_neg (by decide), if_neg (by decide), hr1]; rfl)
      rw [HB.out]
      clear HB HVB HNU hr1 HCL
      go_enter Try.func54, Try.ntmps54
      go_wp2_with fail
      refine (HV.out _).mono ?_
      rintro e w1 ⟨rfl, hb1⟩
      have c0 := C0.out w1 hb1
      have c1 := C1.out w1 hb1
      have c2 := C2.out w1 hb1
      have hbw := hb0.trans (hb1.mono (Nat.le_trans (Nat.le_refl _) (by simp)))
      clear RG hb1 hb0
      go_wp2_with fail
      refine (HNU1.out _ hbw).mono ?_
      rintro e w2 ⟨A2, d2, rfl, ho, hb2⟩
      replace c1 : w2.cell? ⟨w.heap.size, 1, none⟩ = some (.int .i64 z) := (hb2.cell (p := ⟨w.heap.size, 1, none⟩) (cell_lt c1)).trans c1
      replace c2 : w2.cell? ⟨w.heap.size, 2, none⟩ = some (.string s) := (hb2.cell (p := ⟨w.heap.size, 2, none⟩) (cell_lt c2)).trans c2
      replace c0 : w2.cell? ⟨w.heap.size, 0, none⟩ = some (.int .i64 0) := (hb2.cell (p := ⟨w.heap.size, 0, none⟩) (cell_lt c0)).trans c0
      have hws := hbw.size
      replace hbw := hbw.trans (hb2.mono hbw.size)
      clear hb2
      clear c1 c2
      go_wp2_with fail
      go_ret
      exact ⟨A2, d2, rfl, ho.lower hws, hbw⟩
    · obtain ⟨r1, hr1⟩ : ∃ r, r = l ++ enc (held 1) := ⟨_, rfl⟩
      have hrl : r1.length ≤ n + 6 := by rw [hr1, List.length_append, HN.out]; have := held_len 1; omega
      have HNU1 := hid (HNU.out 1)
      rw [← hr1] at HNU1
      obtain ⟨r2, hr2⟩ : ∃ r, r = r1 ++ enc (held z) := ⟨_, rfl⟩
      have HB : Hid (l ++ vbs (1, z, s) = r2) := hid (by rw [HVB.out, if_pos rfl, hr2, hr1, List.append_assoc]; rfl)
      rw [HB.out]
      clear HB HVB HNU hr1 HCL
      go_enter Try.func54, Try.ntmps54
      go_wp2_with fail
      refine (HV.out _).mono ?_
      rintro e w1 ⟨rfl, hb1⟩
      have c0 := C0.out w1 hb1
      have c1 := C1.out w1 hb1
      have c2 := C2.out w1 hb1
      have hbw := hb0.trans (hb1.mono (Nat.le_trans (Nat.le_refl _) (by simp)))
      clear RG hb1 hb0
      go_wp2_with fail
      refine (HNU1.out _ hbw).mono ?_
      rintro e w2 ⟨A2, d2, rfl, ho, hb2⟩
      replace c1 : w2.cell? ⟨w.heap.size, 1, none⟩ = some (.int .i64 z) := (hb2.cell (p := ⟨w.heap.size, 1, none⟩) (cell_lt c1)).trans c1
      replace c2 : w2.cell? ⟨w.heap.size, 2, none⟩ = some (.string s) := (hb2.cell (p := ⟨w.heap.size, 2, none⟩) (cell_lt c2)).trans c2
      replace c0 : w2.cell? ⟨w.heap.size, 0, none⟩ = some (.int .i64 1) := (hb2.cell (p := ⟨w.heap.size, 0, none⟩) (cell_lt c0)).trans c0
      have hws := hbw.size
      replace hbw := hbw.trans (hb2.mono hbw.size)
      clear hb2
      have HN2 := hid (oct_num A2 r1.length d2 r1 z w2 rfl ho.sees (by omega))
      rw [← hr2] at HN2
      clear hr2 ho
      go_wp2_with fail
      refine HN2.out.mono ?_
      rintro e w3 ⟨A3, d3, rfl, ho3, hb3⟩
      go_wp2_with fail
      go_ret
      exact ⟨A3, d3, rfl, ho3.lower hbw.size, hbw.trans (hb3.mono hbw.size)⟩
    · obtain ⟨r1, hr1⟩ : ∃ r, r = l ++ enc (held 2) := ⟨_, rfl⟩
      have hrl : r1.length ≤ n + 6 := by rw [hr1, List.length_append, HN.out]; have := held_len 2; omega
      have HNU1 := hid (HNU.out 2)
      rw [← hr1] at HNU1
      have ht24 : s.data.toList.length ≤ 24 := by have := hs24 rfl; simpa using this
      obtain ⟨r2, hr2⟩ : ∃ r, r = r1 ++ (enc s.data.toList.length ++ s.data.toList) := ⟨_, rfl⟩
      have HB : Hid (l ++ vbs (2, z, s) = r2) := hid (by rw [HVB.out, if_neg (by decide), if_pos rfl, hr2, hr1, List.append_assoc]; rfl)
      rw [HB.out]
      clear HB HVB HNU hr1 HCL
      go_enter Try.func54, Try.ntmps54
      go_wp2_with fail
      refine (HV.out _).mono ?_
      rintro e w1 ⟨rfl, hb1⟩
      have c0 := C0.out w1 hb1
      have c1 := C1.out w1 hb1
      have c2 := C2.out w1 hb1
      have hbw := hb0.trans (hb1.mono (Nat.le_trans (Nat.le_refl _) (by simp)))
      clear RG hb1 hb0
      go_wp2_with fail
      refine (HNU1.out _ hbw).mono ?_
      rintro e w2 ⟨A2, d2, rfl, ho, hb2⟩
      replace c1 : w2.cell? ⟨w.heap.size, 1, none⟩ = some (.int .i64 z) := (hb2.cell (p := ⟨w.heap.size, 1, none⟩) (cell_lt c1)).trans c1
      replace c2 : w2.cell? ⟨w.heap.size, 2, none⟩ = some (.string s) := (hb2.cell (p := ⟨w.heap.size, 2, none⟩) (cell_lt c2)).trans c2
      replace c0 : w2.cell? ⟨w.heap.size, 0, none⟩ = some (.int .i64 2) := (hb2.cell (p := ⟨w.heap.size, 0, none⟩) (cell_lt c0)).trans c0
      have hws := hbw.size
      replace hbw := hbw.trans (hb2.mono hbw.size)
      clear hb2
      have HN2 := hid (oct_str A2 r1.length d2 r1 s.data.toList s.data.toList.length w2 rfl ho.sees (by omega) rfl (by omega))
      rw [← hr2, str_self] at HN2
      clear hr2 ho ht24
      go_wp2_with fail
      refine HN2.out.mono ?_
      rintro e w3 ⟨A3, d3, rfl, ho3, hb3⟩
      go_wp2_with fail
      go_ret
      exact ⟨A3, d3, rfl, ho3.lower hbw.size, hbw.trans (hb3.mono hbw.size)⟩
end Go.Proofs.Ytnhcjadkbogioaa
namespace Go.Proofs.Ytnhcjadkbogioaa
open Go Go.RowKit BitM OctM
theorem grow_any (n : Nat) (w : World) (hn : n ≤ 100000) : Calls Try.prog 55 #[.slice none 0 0, .int .i64 (n : Int)] w fun e w' =>
    ∃ A c, e = .returned (.slice A 0 c) ∧ Own w' w.heap.size 5 (.slice A 0 c) [] ∧ Below w.heap.size w w' := by
  obtain ⟨i0, hi, hz0, hz1, hz2⟩ := oct_parts
  by_cases h0 : n = 0
  · subst h0
    go_enter Try.func55, Try.ntmps55
    go_wp2_with fail
    go_ret
    exact ⟨none, 0, rfl, Own.nil_ _ _ _, Below.refl _ _⟩
  · have hp : 0 < n := by omega
    have hpi : (0 : Int) < (n : Int) := by omega
    clear h0
    go_enter Try.func55, Try.ntmps55
    go_wp2_with (first
      | (at_builtin
         refine Lib.wpList_append_run _ rfl (.tmp 20) (.tmp 21) _ _ rfl _ _ rfl rfl _ _ (Lib.run_append_nil_zeros w 33 3 _ 5 i0 (.int .u8 0) .i64 .i64 Try.underlying33 Try.underlying3 hi hz0 n hp (by omega) (by omega) (by rw [hz2]; omega)) ?_)
      | fail)
    obtain ⟨G, hG⟩ : ∃ G, G = grownCap w n 0 5 := ⟨_, rfl⟩
    have hge : n ≤ G := by rw [hG]; exact grownCap_ge w n 0 _
    have hle : G ≤ maxLen := by rw [hG]; exact grownCap_le_maxLen w n 0 _ (by unfold maxLen; omega)
    rw [← hG]
    go_ret
    refine ⟨_, _, rfl, ⟨rfl, .inr ⟨w.heap.size, G, _, rfl, Nat.le_refl _, heap_alloc_new w.drew _, Nat.zero_le _, hle, ?_, rfl⟩⟩, (Below.refl w.heap.size w).drew.alloc (Nat.le_refl _) _⟩
    rw [Array.size_append, size_zeroCells, size_zeroCells]
    show n * 1 + (G - n) * 1 = G * 1
    omega
def FlatAt (w : World) (g : Nat) (ls : List (List UInt8)) : Prop := ∀ (k : Nat) (h : k < ls.length), ∃ A c, w.cell? ⟨g, k, none⟩ = some (.slice A ls[k].length c) ∧ Sees w w.heap.size A (bvs ls[k])
theorem FlatAt.below {w w' : World} {g : Nat} {ls : List (List UInt8)} (h : FlatAt w g ls) (hg : g < w.heap.size) (hb : Below w.heap.size w w') : FlatAt w' g ls := fun k hk => by
  obtain ⟨A, c, h1, h2⟩ := h k hk
  exact ⟨A, c, (hb.cell (p := ⟨g, k, none⟩) hg).trans h1, (h2.below hb).more hb.size⟩
theorem flat_take {ls : List (List UInt8)} {k : Nat} (h : k < ls.length) : (ls.take (k + 1)).flatten = (ls.take k).flatten ++ ls[k] := by
  rw [List.take_succ_eq_append_getElem h, List.flatten_append]; simp
theorem flat_le {ls : List (List UInt8)} (k : Nat) : (ls.take k).flatten.length ≤ ls.flatten.length := by
  conv => rhs; rw [← List.take_append_drop k ls, List.flatten_append, List.length_append]
  omega
theorem concat_any (g N c0 : Nat) (ls : List (List UInt8)) (w : World) (hN : ls.length = N) (hg : g < w.heap.size) (hf : FlatAt w g ls) (hN9 : N ≤ 100000) (hm : ls.flatten.length ≤ 100000) :
    Calls Try.prog 25 #[.slice (some ⟨g, 0, none⟩) N c0] w (GivesBytes w ls.flatten) := by
  obtain ⟨i0, hi, hz0, hz1, hz2⟩ := oct_parts
  have HF := hid (fun (wx : World) (hb : Below w.heap.size w wx) => hf.below hg hb)
  have HN := hid hN
  have HM := hid hm
  obtain ⟨R, hR⟩ : ∃ R, R = ls.flatten := ⟨_, rfl⟩
  have HR := hid hR
  rw [← hR]
  clear hf hN hm hR
  go_enter Try.func25, Try.ntmps25
  go_wp2_with fail
  go_loop [3, 11] (fun s i => ∃ k tot : Nat, k ≤ N ∧ i = .int .i64 k ∧ s = .int .i64 tot ∧ tot ≤ 100000 ∧ Hid (tot = (ls.take k).flatten.length)) (fun _ i => N - (intOf i).toNat)
  case atStart => exact ⟨0, 0, Nat.zero_le _, rfl, rfl, by omega, hid rfl⟩
  case round =>
    obtain ⟨k, tot, hk, rfl, rfl, ht, HT⟩ := hrel
    by_cases hlt : k < N
    · have hkl : k < ls.length := by rw [HN.out]; exact hlt
      obtain ⟨Ak, ck, hc, hs⟩ := HF.out w (Below.refl _ _) k hkl
      have HT2 : Hid (tot + ls[k].length = (ls.take (k + 1)).flatten.length) := hid (by rw [flat_take hkl, List.length_append, ← HT.out])
      have ht2 : tot + ls[k].length ≤ 100000 := by rw [HT2.out]; exact Nat.le_trans (flat_le _) HM.out
      obtain ⟨nk, hnk⟩ : ∃ nk, nk = ls[k].length := ⟨_, rfl⟩
      rw [← hnk] at hc HT2 ht2
      have hki : (k : Int) < (N : Int) := by omega
      clear hnk hs hkl
      go_wp2_with fail
      go_round
      case rel => exact ⟨k + 1, tot + nk, by omega, by go_num, by go_num, ht2, HT2⟩
      case measure => simp [intOf]; omega
    · obtain rfl : k = N := by omega
      have HTT : Hid (tot = R.length) := hid (by rw [HT.out, HR.out, ← HN.out, List.take_length])
      clear HT
      have HG := hid (grow_any tot w (by omega))
      go_wp2_with fail
      refine HG.out.mono ?_
      rintro e w1 ⟨A1, c1, rfl, hown1, hb1⟩
      go_wp2_with fail
      go_loopw [6, 27] (fun v i wr => ∃ (j la : Nat) (acc : List UInt8), j ≤ k ∧ i = .int .i64 j ∧ (∃ A2 c2, v = .slice A2 la c2 ∧ Own wr w.heap.size 5 (.slice A2 la c2) (bvs acc)) ∧ Hid (acc.length = la) ∧ la ≤ 100000 ∧ Hid (acc = (ls.take j).flatten) ∧ Below w.heap.size w wr) (fun _ i _ => k - (intOf i).toNat)
      case atStart => exact ⟨0, 0, [], Nat.zero_le _, rfl, ⟨A1, c1, rfl, hown1⟩, hid rfl, by omega, hid rfl, hb1⟩
      case round =>
        obtain ⟨j, la, acc, hj, rfl, ⟨A2, c2, rfl, hown⟩, HLA, hla, HACC, hbr⟩ := hrel
        by_cases hlt2 : j < k
        · have hkl : j < ls.length := by rw [HN.out]; exact hlt2
          obtain ⟨Ak, ck, hc, hs⟩ := HF.out wr hbr j hkl
          have HA2 : Hid (acc ++ ls[j] = (ls.take (j + 1)).flatten) := hid (by rw [flat_take hkl, ← HACC.out])
          have ht2 : la + ls[j].length ≤ 100000 := by rw [← HLA.out, ← List.length_append, HA2.out]; exact Nat.le_trans (flat_le _) HM.out
          obtain ⟨lk, hlk⟩ : ∃ lk, lk = ls[j] := ⟨_, rfl⟩
          rw [← hlk] at hc HA2 ht2 hs
          obtain ⟨nk, hnk⟩ : ∃ nk, nk = lk.length := ⟨_, rfl⟩
          rw [← hnk] at hc ht2
          have HNK := hid hnk
          have hki : (j : Int) < (k : Int) := by omega
          clear hnk hlk hkl
          go_wp2_with (first
            | (at_builtin
               refine wpList_app _ rfl (.tmp 31) (.tmp 32) _ rfl w.heap.size 5 i0 _ 1 Try.underlying33 hi hz0 hz1 hz2 rfl (.slice A2 la c2) (bvs acc) la rfl (by rw [bvs_length, HLA.out]) hown wr.heap.size Ak ck (bvs lk) nk rfl (by rw [bvs_length, HNK.out]) hs (bvs_one _) (by simp [maxLen]; omega) (by omega) hbr.size ?_
               intro A3 c3 w3 hown3 hb3 hg3 hat3
               rw [← bvs_append] at hown3
               have hbr3 := hbr.trans hb3
               clear hg3 hat3 hb3 hown hbr)
            | fail)
          go_roundw
          case rel => exact ⟨j + 1, la + nk, acc ++ lk, by omega, by go_num, ⟨A3, c3, rfl, hown3⟩, hid (by rw [List.length_append, HLA.out, HNK.out]), ht2, HA2, hbr3⟩
          case measure => simp [intOf]; omega
        · obtain rfl : j = k := by omega
          have HA2 : Hid (acc = R) := hid (by rw [HACC.out, HR.out, ← HN.out, List.take_length])
          go_wp2_with fail
          go_ret
          rw [HA2.out] at hown
          have hl : R.length = la := by rw [← HA2.out]; exact HLA.out
          rw [← hl] at hown
          exact ⟨A2, c2, by rw [hl]; rfl, hown, hbr⟩
def SeesBytes (w : World) (xs : List UInt8) : Ending → World → Prop := fun e w' => ∃ A' c', e = .returned (.slice A' xs.length c') ∧ Sees w' w'.heap.size A' (bvs xs) ∧ Below w.heap.size w w'
def fbs (L : List Int) (f : List V3) : List UInt8 := L.flatMap fun i => vbs (f.getD i.toNat zv)
theorem fbs_snoc (L : List Int) (i : Int) (f : List V3) : fbs (L ++ [i]) f = fbs L f ++ vbs (f.getD i.toNat zv) := by simp [fbs]
theorem vbs_len (v : V3) : (vbs v).length ≤ 40 := by
  obtain ⟨k, z, s⟩ := v
  unfold vbs
  split
  · simp
  · rename_i h
    have hv : vchk (k, z, s) = true := by simpa using h
    split
    · rw [List.length_append]
      have h1 := held_len z
      have h2 := held_len 1
      have : enc 1 = enc (held 1) := rfl
      rw [this]
      show (enc (held 1)).length + (enc (held z)).length ≤ 40
      omega
    · split
      · rename_i h1 h2
        have h24 := (vchk_kind hv).2 h2
        have hl : s.data.toList.length = s.size := by simp
        have e1 := enc_len 0 s.data.toList.length (by omega)
        have e2 := held_len 2
        have : enc 2 = enc (held 2) := rfl
        rw [this, List.length_append, List.length_append]
        show (enc (held 2)).length + ((enc s.data.toList.length).length + s.data.toList.length) ≤ 40
        omega
      · have h2 := held_len 0
        have : enc 0 = enc (held 0) := rfl
        rw [this]; omega
theorem putvals_any (x : BitVec 32) (f : List V3) (A : Option Addr) (n c : Nat) (l : List UInt8) (w : World) (hf : f.length = 8) (hn : l.length = n) (hs : Sees w w.heap.size A (bvs l)) (hm : n ≤ 10000) :
    Calls Try.prog 51 #[.slice A n c, .int .u32 (x.toNat : Int), .agg (fcells f).toArray] w (SeesBytes w (l ++ fbs (flds x) f)) := by
  have HFI := hid (fun wx : World => fields_any x wx)
  have HMEM := hid (fun n (h : n ∈ flds x) => (mem_flds x n).1 h)
  have hfl := flds_len x
  obtain ⟨L, hL⟩ : ∃ L, L = flds x := ⟨_, rfl⟩
  rw [← hL] at HFI HMEM hfl ⊢
  clear hL
  obtain ⟨m, hm2⟩ : ∃ m, m = L.length := ⟨_, rfl⟩
  rw [← hm2] at HFI hfl
  have HLM := hid hm2
  have HF := hid hf
  have HN := hid hn
  clear hm2 hf hn
  obtain ⟨R, hR⟩ : ∃ R, R = l ++ fbs L f := ⟨_, rfl⟩
  rw [← hR]
  have HR := hid hR
  clear hR
  have B0 := Blk.new w (fcells f) 25
  have hb0 : Below w.heap.size w (w.alloc (.cells (fcells f).toArray 25)) := (Below.refl _ w).alloc (Nat.le_refl _) _
  have hs0 : Sees (w.alloc (.cells (fcells f).toArray 25)) w.heap.size A (bvs l) := hs.alloc (Nat.le_refl _) _
  obtain ⟨ca, hca⟩ : ∃ ca, ca = (fcells f).toArray := ⟨_, rfl⟩
  rw [← hca] at B0 hb0 hs0 ⊢
  clear hca hs
  go_enter Try.func51, Try.ntmps51
  go_wp2_with fail
  refine (HFI.out _).mono ?_
  rintro e w1 ⟨AF, cF, rfl, hownF, hb1⟩
  replace B0 := B0.later hb1
  have hsF := hownF.sees
  have hb01 := hb0.trans (hb1.mono hb0.size)
  have hs1 : Sees w1 w1.heap.size A (bvs l) := (hs0.below (hb1.mono (by simp))).more hb01.size
  clear hownF hb0 hs0 hb1
  go_wp2_with fail
  go_loopw [0, 12] (fun v i wr => ∃ (k la : Nat) (acc : List UInt8), k ≤ m ∧ i = .int .i64 k ∧ (∃ A1 c1, v = .slice A1 la c1 ∧ Sees wr wr.heap.size A1 (bvs acc)) ∧ Hid (acc.length = la) ∧ la ≤ n + 40 * k ∧ Hid (acc = l ++ fbs (L.take k) f) ∧ Blk wr w.heap.size (fcells f) ∧ Below w1.heap.size w1 wr ∧ Below w.heap.size w wr) (fun _ i _ => m - (intOf i).toNat)
  case atStart => exact ⟨0, n, l, Nat.zero_le _, rfl, ⟨A, c, rfl, hs1⟩, HN, by omega, hid (by simp [fbs]), B0, Below.refl _ _, hb01⟩
  case round =>
    obtain ⟨k, la, acc, hk, rfl, ⟨A1, c1, rfl, hsa⟩, HLA, hla, HACC, D0, hbw, hbr⟩ := hrel
    by_cases hlt : k < m
    · have hkl : k < L.length := by rw [← HLM.out]; exact hlt
      obtain ⟨h0, h8, hxx⟩ := HMEM.out L[k] (List.getElem_mem hkl)
      obtain ⟨b, o, rfl, hb, hc⟩ := hsF (by rw [ivs_length]; omega)
      have hck := hc k (by rw [ivs_length]; exact hkl)
      have he : (ivs L)[k]'(by rw [ivs_length]; exact hkl) = .int .i64 L[k] := by simp [ivs]
      rw [he] at hck
      have hck2 : wr.cell? ⟨b, o + k, none⟩ = some (.int .i64 L[k]) := (hbw.cell (p := ⟨b, o + k, none⟩) hb).trans hck
      have HA2 : Hid (acc ++ vbs (f.getD L[k].toNat zv) = l ++ fbs (L.take (k + 1)) f) := hid (by rw [List.take_succ_eq_append_getElem hkl, fbs_snoc, HACC.out, List.append_assoc])
      obtain ⟨y, hy⟩ : ∃ y, y = L[k] := ⟨_, rfl⟩
      rw [← hy] at h0 h8 hck2 HA2
      obtain ⟨j, rfl⟩ := Int.eq_ofNat_of_zero_le h0
      have hj8 : j < 8 := by omega
      have hjf : j < f.length := by rw [HF.out]; exact hj8
      have hg : f.getD ((j : Int)).toNat zv = f[j] := by simp [List.getD, hjf]
      rw [hg] at HA2
      obtain ⟨l0, l1, l2⟩ := Blk.field0 D0 j hjf
      obtain ⟨⟨v0, v1, v2⟩, hv⟩ : ∃ v, v = f[j] := ⟨_, rfl⟩
      rw [← hv] at l0 l1 l2 HA2
      simp only at l0 l1 l2
      have hvl := vbs_len (v0, v1, v2)
      obtain ⟨r, hr⟩ : ∃ r, r = acc ++ vbs (v0, v1, v2) := ⟨_, rfl⟩
      have hrl : r.length ≤ n + 40 * (k + 1) := by rw [hr, List.length_append, HLA.out]; omega
      have HPV := hid (putval_any v0 v1 v2 A1 la c1 acc wr HLA.out hsa (by omega))
      rw [← hr] at HPV HA2
      have hki : (k : Int) < (m : Int) := by omega
      have hj0 : (0 : Int) ≤ (j : Int) := by omega
      have hj8i : (j : Int) < 8 := by omega
      clear hxx
      clear hy he hkl hck hc hv hr hg hvl hsa hjf h0 h8 hj8
      go_wp2_with fail
      refine HPV.out.mono ?_
      rintro e w2 ⟨A2, c2, rfl, ho, hb2⟩
      have D2 := D0.later hb2
      have hs2 := ho.sees
      have hbw2 := hbw.trans (hb2.mono hbw.size)
      have hbr2 := hbr.trans (hb2.mono hbr.size)
      clear ho hb2 D0 hbw hbr
      go_wp2_with fail
      go_roundw
      case rel => exact ⟨k + 1, r.length, r, by omega, by go_num, ⟨A2, c2, rfl, hs2⟩, hid rfl, hrl, HA2, D2, hbw2, hbr2⟩
      case measure => simp [intOf]; omega
    · obtain rfl : k = m := by omega
      have HA2 : Hid (acc = R) := hid (by rw [HACC.out, HR.out, HLM.out, List.take_length])
      have hl : R.length = la := by rw [← HA2.out]; exact HLA.out
      rw [HA2.out] at hsa
      have HL := hid hl
      clear hl
      go_wp2_with fail
      go_ret
      exact ⟨A1, c1, by rw [HL.out]; rfl, hsa, hbr⟩
end Go.Proofs.Ytnhcjadkbogioaa
namespace Go.Proofs.Ytnhcjadkbogioaa
open Go Go.RowKit BitM
section
variable {P : Program} {ops : Array Oper} {rest : List Oper} {op : Oper} {a : Act} {w : World} {Q : Exit → Act → World → Prop}
end
theorem mix_getD (p : Nat → Bool) (a c : List V3) (i : Nat) (h : i < 8) : (mix p a c).getD i zv = if p i then a.getD i zv else c.getD i zv := by
  have hl : i < (mix p a c).length := by rw [mix_len]; exact h
  rw [List.getD_eq_getElem?_getD, List.getElem?_eq_getElem hl, Option.getD_some, mix_get]
def vk (f : List V3) (k : Nat) : Bool := (List.range k).all fun i => vchk (f.getD i zv)
theorem vk_succ (f : List V3) (k : Nat) : vk f (k + 1) = (vk f k && vchk (f.getD k zv)) := by
  unfold vk
  rw [List.range_succ, List.all_append]
  simp
theorem vk_mono (f : List V3) {j k : Nat} (h : j ≤ k) (hf : vk f j = false) : vk f k = false := by
  induction k with
  | zero => obtain rfl : j = 0 := by omega
            exact hf
  | succ k ih =>
    by_cases e : j = k + 1
    · subst e; exact hf
    · rw [vk_succ, ih (by omega)]; rfl
theorem zp26 : (pcells 0 0 zeros).toArray = #[Value.int .u32 0, .int .u32 0, .int .i64 0, .int .i64 0, .string { data := #[] }, .int .i64 0, .int .i64 0, .string { data := #[] }, .int .i64 0, .int .i64 0, .string { data := #[] }, .int .i64 0, .int .i64 0, .string { data := #[] }, .int .i64 0, .int .i64 0, .string { data := #[] }, .int .i64 0, .int .i64 0, .string { data := #[] }, .int .i64 0, .int .i64 0, .string { data := #[] }, .int .i64 0, .int .i64 0, .string { data := #[] }] := rfl
theorem zv3 : (vcells zv).toArray = #[Value.int .i64 0, .int .i64 0, .string { data := #[] }] := rfl
theorem run_index_val (f : List V3) (k : Nat) (hk : k < f.length) (hf : f.length = 8) (w : World) :
    (Instr.index 25 (.agg (fcells f).toArray) (.int .i64 (k : Int))).run Try.prog w = .ok (.agg (vcells f[k]).toArray) w := by
  have hsz : ∀ w, (sizeOf 24).run Try.prog w = .ok 3 w := fun w => by kernel_rfl
  have hag : ∀ w, (isAgg 24).run Try.prog w = .ok true w := fun w => by kernel_rfl
  have h8 : (0 : Int) ≤ (k : Int) ∧ (k : Int) < ((8 : Nat) : Int) := by omega
  have hp : (part 24 (fcells f).toArray (k * 3)).run Try.prog w = .ok (.agg (vcells f[k]).toArray) w := by
    simp only [part, Sem.run_bind, hag, Result.andThen_ok, hsz, if_true, Sem.run_pure, fcells_ext f k hk]
  simp only [Instr.index, asIntOf, Sem.run_bind, Sem.run_pure, Result.andThen_ok, run_underlying Try.underlying25, if_pos h8, hsz, Int.toNat_natCast, hp]
theorem exec_index {a : Act} {w : World} {op : Oper} (f : List V3) (k : Nat) (hk : k < f.length) (hf : f.length = 8) (x y : Operand) (ho : op.op = .index 25 x y) (hx : a.eval x = .agg (fcells f).toArray) (hy : a.eval y = .int .i64 (k : Int)) :
    (execOp a.eval op).run Try.prog w = .ok (.value (.agg (vcells f[k]).toArray)) w := by
  unfold execOp
  simp only [ho, hx, hy, Sem.run_bind, run_index_val f k hk hf, Result.andThen_ok, Sem.run_pure]
theorem values_any (f : List V3) (w : World) (hf : f.length = 8) :
    Calls Try.prog 82 #[.agg (fcells f).toArray] w fun e w' => e = .returned (.bool (vk f 8)) ∧ Below w.heap.size w w' := by
  have HF := hid hf
  have HFL : Hid ((fcells f).length = 24) := hid (by rw [fcells_len, hf])
  have B0 := Blk.new w (fcells f) 25
  obtain ⟨fa, hfa⟩ : ∃ fa, fa = (fcells f).toArray := ⟨_, rfl⟩
  rw [← hfa] at B0 ⊢
  have HB := hid ((Below.refl w.heap.size w).alloc (Nat.le_refl _) (.cells fa 25))
  obtain ⟨R, hR⟩ : ∃ R, R = vk f 8 := ⟨_, rfl⟩
  rw [← hR]
  have HR := hid hR
  have RG := B0.wholeC
  have hu8 := Try.underlying25
  have hu := Try.underlying24
  have HFA := hid hfa
  clear hfa hf hR B0
  go_enter Try.func82, Try.ntmps82
  go_wp2_with (first
    | (refine wpList_load_mid rfl 25 (.tmp 1) rfl w.heap.size 0 rfl (fcells f) _ RG hu8 rfl (by rw [HFL.out]; exact info_fields) ?_))
  clear RG
  go_loopw [6] (fun i wr => ∃ k : Nat, k ≤ 8 ∧ i = .int .i64 k ∧ Hid (vk f k = true) ∧ Below w.heap.size w wr) (fun i _ => 8 - (intOf i).toNat)
  case atStart => exact ⟨0, by omega, rfl, hid rfl, HB.out⟩
  case round =>
    obtain ⟨k, hk, rfl, HK, hbr⟩ := hrel
    clear HB
    by_cases hlt : k < 8
    · have hkf : k < f.length := by rw [HF.out]; exact hlt
      have d8 : (k : Int) < 8 := by omega
      have HS := hid (vk_succ f k)
      obtain ⟨v, hv⟩ : ∃ v, v = f[k] := ⟨_, rfl⟩
      have hg : f.getD k zv = v := by rw [hv]; simp [List.getD, hkf]
      have HG := hid hg
      have HV := hid hv
      obtain ⟨v0, v1, v2⟩ := v
      have HC := hid (fun wx : World => vcheck_any v0 v1 v2 wx)
      have A1 := Blk.new wr (vcells zv) 24
      have TH := A1.there 0 3 (by simp [vcells])
      have E1 := A1.whole (ds := vcells (v0, v1, v2)) rfl
      have RGV := E1.wholeC
      have EB := below_sets (B := w.heap.size) (b := wr.heap.size) hbr.size (vcells (v0, v1, v2)) 0 (hbr.alloc hbr.size (.cells (vcells zv).toArray 24))
      have hone : ∀ u ∈ vcells (v0, v1, v2), u.oneCell' = true := by intro u hu; simp [vcells] at hu; rcases hu with rfl | rfl | rfl <;> rfl
      rw [zv3] at TH RGV EB
      have HEB := hid EB
      clear hv hg A1 E1 EB
      cases hc : vchk (v0, v1, v2) with
      | false =>
        rw [hc] at HC
        have HCC := hid hc
        clear hc
        go_wp2_with (first
          | (refine wpList_exec (op := ⟨some 8, .index 25 _ _, _, _, _, _⟩) (by rfl) (.agg (vcells (v0, v1, v2)).toArray) (by rw [HV.out]; exact exec_index f k hkf HF.out (.tmp 5) (.tmp 6) rfl rfl rfl) ?_)
          | (refine wpList_store_mid rfl 24 (.tmp 4) (.tmp 8) rfl wr.heap.size 0 (vcells (v0, v1, v2)).toArray rfl rfl (by simpa [vcells] using TH) (by simpa [vcells] using info_val) (all_oneCell_toArray hone) ?_)
          | (refine wpList_load_mid rfl 24 (.tmp 4) rfl wr.heap.size 0 rfl (vcells (v0, v1, v2)) _ RGV hu rfl info_val ?_))
        refine (HC.out _).mono ?_
        rintro e w1 ⟨rfl, hb⟩
        have hbw := HEB.out.trans (hb.mono HEB.out.size)
        clear TH RGV HEB hb
        go_wp2_with fail
        go_ret
        refine ⟨?_, hbw⟩
        have hfin : R = false := by rw [HR.out]; exact vk_mono f (j := k + 1) (by omega) (by rw [HS.out, HG.out, HCC.out]; simp)
        rw [hfin]
        rfl
      | true =>
        rw [hc] at HC
        have HCC := hid hc
        clear hc
        go_wp2_with (first
          | (refine wpList_exec (op := ⟨some 8, .index 25 _ _, _, _, _, _⟩) (by rfl) (.agg (vcells (v0, v1, v2)).toArray) (by rw [HV.out]; exact exec_index f k hkf HF.out (.tmp 5) (.tmp 6) rfl rfl rfl) ?_)
          | (refine wpList_store_mid rfl 24 (.tmp 4) (.tmp 8) rfl wr.heap.size 0 (vcells (v0, v1, v2)).toArray rfl rfl (by simpa [vcells] using TH) (by simpa [vcells] using info_val) (all_oneCell_toArray hone) ?_)
          | (refine wpList_load_mid rfl 24 (.tmp 4) rfl wr.heap.size 0 rfl (vcells (v0, v1, v2)) _ RGV hu rfl info_val ?_))
        refine (HC.out _).mono ?_
        rintro e w1 ⟨rfl, hb⟩
        have hbw := HEB.out.trans (hb.mono HEB.out.size)
        clear TH RGV HEB hb
        go_wp2_with fail
        go_roundw
        case rel => exact ⟨k + 1, by omega, by go_num, hid (by rw [HS.out, HK.out, HG.out, HCC.out]; rfl), hbw⟩
        case measure => simp [intOf]; omega
    · obtain rfl : k = 8 := by omega
      go_wp2_with fail
      go_ret
      exact ⟨by rw [HR.out, HK.out]; rfl, hbr⟩
theorem vchk_none {v : V3} (h : vchk v = true) (h0 : v.1 = 0) : v = zv := by
  obtain ⟨k, n, s⟩ := v
  simp only at h0
  subst h0
  rw [vchk_0, decide_eq_true_eq] at h
  obtain ⟨rfl, hs⟩ := h
  rw [nil_str_iff] at hs
  subst hs
  rfl
theorem vk_iff (f : List V3) (k : Nat) : vk f k = true ↔ ∀ i, i < k → vchk (f.getD i zv) = true := by
  unfold vk
  simp only [List.all_eq_true, List.mem_range]
theorem fok_iff (x : BitVec 32) (f : List V3) (k : Nat) : fok x f k = true ↔ ∀ i, i < k → vchk (f.getD i zv) = true ∧ ((f.getD i zv).1 = 0 ∨ has x (i : Int) = true) := by
  unfold fok
  simp only [List.all_eq_true, List.mem_range, Bool.and_eq_true, Bool.or_eq_true, decide_eq_true_eq]
theorem zeros_getD (i : Nat) : zeros.getD i zv = zv := by
  unfold zeros
  rw [List.getD_eq_getElem?_getD, List.getElem?_replicate]
  split <;> rfl
theorem mix_same (x : BitVec 32) (f : List V3) (hf : f.length = 8) : mix (fun i => has x (i : Int)) f zeros = f ↔ ∀ i : Nat, i < 8 → has x (i : Int) = true ∨ f.getD i zv = zv := by
  constructor
  · intro h i hi
    have h1 := mix_getD (fun i => has x (i : Int)) f zeros i hi
    rw [h] at h1
    cases hx : has x (i : Int)
    · right
      rw [h1, hx]
      exact zeros_getD i
    · exact .inl rfl
  · intro h
    apply List.ext_getElem
    · rw [mix_len, hf]
    · intro i h1 h2
      have hi : i < 8 := by rw [hf] at h2; exact h2
      have e : f.getD i zv = f[i] := by simp [List.getD, h2]
      rw [mix_get]
      rcases h i hi with hx | hz
      · rw [hx, ← e]; rfl
      · cases hx : has x (i : Int)
        · rw [← e, hz]; exact zeros_getD i
        · rw [← e]; rfl
theorem fok_eq (x : BitVec 32) (f : List V3) (hf : f.length = 8) : fok x f 8 = (decide (mix (fun i => has x (i : Int)) f zeros = f) && vk (mix (fun i => has x (i : Int)) f zeros) 8) := by
  rw [Bool.eq_iff_iff, Bool.and_eq_true, decide_eq_true_eq]
  constructor
  · intro h
    rw [fok_iff] at h
    have hm : mix (fun i => has x (i : Int)) f zeros = f := (mix_same x f hf).2 (fun i hi => by
      rcases (h i hi).2 with h0 | hx
      · exact .inr (vchk_none (h i hi).1 h0)
      · exact .inl hx)
    refine ⟨hm, ?_⟩
    rw [hm, vk_iff]
    exact fun i hi => (h i hi).1
  · rintro ⟨hm, hv⟩
    rw [hm, vk_iff] at hv
    rw [fok_iff]
    intro i hi
    refine ⟨hv i hi, ?_⟩
    rcases (mix_same x f hf).1 hm i hi with hx | hz
    · exact .inr hx
    · exact .inl (by rw [hz]; rfl)
theorem guard_arr : Try.prog.eqGuardType Try.prog.depth 25 = false := by kernel_rfl
theorem pcheck_any (x : BitVec 32) (lab : Int) (f : List V3) (w : World) (hf : f.length = 8) :
    Calls Try.prog 44 #[.agg (pcells (x.toNat : Int) lab f).toArray] w fun e w' => e = .returned (.int .i64 (pchk x lab f)) ∧ Below w.heap.size w w' := by
  have HS := hid (fun wx : World => shown_any lab x f wx hf)
  have HM := hid (fun wx : World => mcheck_any x wx)
  have HFL : Hid ((fcells f).length = 24) := hid (by rw [fcells_len, hf])
  obtain ⟨l, hl⟩ : ∃ l : Int, l = (if has x 8 then lab else 0) := ⟨_, rfl⟩
  obtain ⟨sf, hsf⟩ : ∃ sf, sf = mix (fun i => has x (i : Int)) f zeros := ⟨_, rfl⟩
  have hs8 : sf.length = 8 := by rw [hsf, mix_len]
  have HSF : Hid ((fcells sf).length = 24) := hid (by rw [fcells_len, hs8])
  have HV := hid (fun wx : World => values_any sf wx hs8)
  have HE := hid (fun wx : World => eq_fields 9997 sf f hs8 hf wx)
  have hfk := fok_eq x f hf
  rw [← hl, ← hsf] at HS
  rw [← hsf] at hfk
  have hone : ∀ v ∈ fcells sf, v.oneCell' = true := fcells_one sf
  obtain ⟨R, hR⟩ : ∃ R, R = pchk x lab f := ⟨_, rfl⟩
  rw [← hR]
  have HR := hid hR
  have HFK := hid hfk
  have HLL := hid hl
  have HZ8 : Hid ((fcells zeros).toArray = #[Value.int .i64 0, .int .i64 0, .string { data := #[] }, .int .i64 0, .int .i64 0, .string { data := #[] }, .int .i64 0, .int .i64 0, .string { data := #[] }, .int .i64 0, .int .i64 0, .string { data := #[] }, .int .i64 0, .int .i64 0, .string { data := #[] }, .int .i64 0, .int .i64 0, .string { data := #[] }, .int .i64 0, .int .i64 0, .string { data := #[] }, .int .i64 0, .int .i64 0, .string { data := #[] }]) := hid rfl
  have B0 := Blk.new w (pcells (x.toNat : Int) lab f) 27
  obtain ⟨pa, hpa⟩ : ∃ pa, pa = (pcells (x.toNat : Int) lab f).toArray := ⟨_, rfl⟩
  rw [← hpa] at B0 ⊢
  have hw0 := (Below.refl w.heap.size w).alloc (Nat.le_refl _) (.cells pa 27)
  have hsz : (w.alloc (.cells pa 27)).heap.size = w.heap.size + 1 := by simp
  generalize hW : w.alloc (.cells pa 27) = W at *
  have HW := hid hW
  have HB := hid hw0
  have HSZ := hid hsz
  clear hl hsf hs8 hfk hR hpa hw0 hf hsz hW
  obtain ⟨p0, p1⟩ := B0.patch
  have RF := B0.fieldsP
  have hu8 := Try.underlying25
  have HC0 := hid B0
  have HP1 := hid p1
  have HRF := hid RF
  clear B0 p1 RF
  rw [← HW.out] at p0
  by_cases h2 : x.toNat = 0
  · have b2 : ((x.toNat : Int) == 0) = true := by rw [h2]; rfl
    have HRR : Hid (R = 11) := hid (by rw [HR.out]; unfold pchk; rw [if_pos (.inr h2)])
    clear h2
    go_enter Try.func44, Try.ntmps44
    go_wp2_with fail
    go_ret
    exact ⟨by rw [HRR.out]; rfl, by rw [HW.out]; exact HB.out⟩
  · have b2 : ((x.toNat : Int) == 0) = false := by rw [beq_eq_false_iff_ne]; omega
    by_cases h1 : x.toNat ≤ 511
    · rw [decide_eq_true h1] at HM
      have hn : ¬ (511 < x.toNat ∨ x.toNat = 0) := by omega
      have HRN : Hid (R = if 65536 ≤ lab ∨ (lab ≠ 0 ∧ has x 8 = false) then 1 else if fok x f 8 then 0 else 1) := hid (by rw [HR.out]; unfold pchk; rw [if_neg hn])
      clear h1 h2 hn
      go_enter Try.func44, Try.ntmps44
      go_wp2_with fail
      rw [HW.out]
      clear p0
      obtain ⟨p0, p1⟩ := HC0.out.patch
      refine (HM.out _).mono ?_
      rintro e w' ⟨rfl, rfl⟩
      have RF := HRF.out
      go_wp2_with (first
        | (refine wpList_load_mid rfl 25 (.tmp 17) rfl w.heap.size 2 rfl (fcells f) _ RF hu8 rfl (by rw [HFL.out]; exact info_fields) ?_))
      clear p0 p1 RF
      refine (HS.out _).mono ?_
      rintro e w1 ⟨rfl, hb⟩
      have hb1 := HB.out.trans (hb.mono HB.out.size)
      have C0 := (HC0.out.later hb).alloc (.cells (fcells zeros).toArray 25)
      have hlt : w.heap.size < w1.heap.size := (HC0.out.later hb).lt
      have A5 := Blk.new w1 (fcells zeros) 25
      have TH := A5.there 0 24 (by rw [fcells_len, zeros_len]; omega)
      have E5 := A5.whole (ds := fcells sf) (by rw [HSF.out, fcells_len, zeros_len])
      have E0 := Blk.setsOther (b := w1.heap.size) (g := w.heap.size) (by omega) (fcells sf) 0 C0
      have EB := below_sets (B := w.heap.size) (b := w1.heap.size) (by omega) (fcells sf) 0 (hb1.alloc (by omega) (.cells (fcells zeros).toArray 25))
      have RS := E5.wholeC
      have RF := E0.fieldsP
      obtain ⟨p0, p1⟩ := E0.patch
      clear p0
      rw [HZ8.out] at TH RS RF p1 EB
      have HEB := hid EB
      clear hb hb1 C0 A5 E5 E0 EB HM HS HB HC0 HP1 HRF HW HSZ
      cases hll : decide (l = lab) with
      | false =>
        have bl : (l != lab) = true := by simpa using hll
        have HRR : Hid (R = 1) := hid (by
          rw [HRN.out, if_pos]
          have h : ¬ l = lab := by simpa using hll
          rw [HLL.out] at h
          right
          cases h8 : has x 8
          · rw [h8] at h
            exact ⟨fun e => h (by rw [e]; rfl), rfl⟩
          · rw [h8] at h
            exact absurd rfl h)
        clear hll
        go_wp2_with (first
          | (refine wpList_store_mid rfl 25 (.tmp 4) (.tmp 23) rfl w1.heap.size 0 (fcells sf).toArray rfl rfl (by simpa [HSF.out] using TH) (by simpa [HSF.out] using info_fields) (all_oneCell_toArray hone) ?_))
        go_ret
        exact ⟨by rw [HRR.out]; rfl, HEB.out⟩
      | true =>
        have bl : (l != lab) = false := by simpa using hll
        have hle : l = lab := by simpa using hll
        have HN8 : Hid (¬ (lab ≠ 0 ∧ has x 8 = false)) := hid (by
          rintro ⟨h1, h2⟩
          rw [HLL.out, h2] at hle
          exact h1 hle.symm)
        have HLE := hid hle
        clear hll hle
        cases hs : decide (sf = f) with
        | false =>
          have HRR : Hid (R = 1) := hid (by rw [HRN.out, HFK.out, hs]; simp)
          rw [hs] at HE
          clear hs
          go_wp2_with (first
            | (refine wpList_store_mid rfl 25 (.tmp 4) (.tmp 23) rfl w1.heap.size 0 (fcells sf).toArray rfl rfl (by simpa [HSF.out] using TH) (by simpa [HSF.out] using info_fields) (all_oneCell_toArray hone) ?_)
            | (refine wpList_load_g (by rfl) 25 (.tmp 4) rfl w1.heap.size 0 rfl (fcells sf) _ RS hu8 rfl (by rw [HSF.out]; exact info_fields) ?_)
            | (refine wpList_load_g (by rfl) 25 (.tmp 30) rfl w.heap.size 2 rfl (fcells f) _ RF hu8 rfl (by rw [HFL.out]; exact info_fields) ?_)
            | (refine wpList_exec (by rfl) (.bool true) (exec_neq 25 _ (.tmp 29) (.tmp 31) rfl _ _ rfl rfl guard_arr false (HE.out _)) ?_))
          go_ret
          exact ⟨by rw [HRR.out]; rfl, HEB.out⟩
        | true =>
          rw [hs] at HE
          have HSS := hid hs
          clear hs
          by_cases hg : 65535 < l
          · have dg : decide (65535 < l) = true := by simpa using hg
            have HRR : Hid (R = 1) := hid (by rw [HRN.out, if_pos]; left; rw [← HLE.out]; omega)
            clear hg
            go_wp2_with (first
              | (refine wpList_store_mid rfl 25 (.tmp 4) (.tmp 23) rfl w1.heap.size 0 (fcells sf).toArray rfl rfl (by simpa [HSF.out] using TH) (by simpa [HSF.out] using info_fields) (all_oneCell_toArray hone) ?_)
              | (refine wpList_load_g (by rfl) 25 (.tmp 4) rfl w1.heap.size 0 rfl (fcells sf) _ RS hu8 rfl (by rw [HSF.out]; exact info_fields) ?_)
              | (refine wpList_load_g (by rfl) 25 (.tmp 30) rfl w.heap.size 2 rfl (fcells f) _ RF hu8 rfl (by rw [HFL.out]; exact info_fields) ?_)
              | (refine wpList_exec (by rfl) (.bool false) (exec_neq 25 _ (.tmp 29) (.tmp 31) rfl _ _ rfl rfl guard_arr true (HE.out _)) ?_))
            go_ret
            exact ⟨by rw [HRR.out]; rfl, HEB.out⟩
          · have dg : decide (65535 < l) = false := by simpa using hg
            have HRV : Hid (R = if vk sf 8 then 0 else 1) := hid (by
              rw [HRN.out, if_neg (by rw [← HLE.out]; rintro (h | h); exact hg (by omega); exact HN8.out (by rw [← HLE.out]; exact h)), HFK.out, HSS.out, Bool.true_and])
            clear hg
            cases hv : vk sf 8 with
            | false =>
              rw [hv] at HV HRV
              have HRR : Hid (R = 1) := hid (by rw [HRV.out]; rfl)
              clear hv
              go_wp2_with (first
                | (refine wpList_store_mid rfl 25 (.tmp 4) (.tmp 23) rfl w1.heap.size 0 (fcells sf).toArray rfl rfl (by simpa [HSF.out] using TH) (by simpa [HSF.out] using info_fields) (all_oneCell_toArray hone) ?_)
                | (refine wpList_load_g (by rfl) 25 (.tmp 4) rfl w1.heap.size 0 rfl (fcells sf) _ RS hu8 rfl (by rw [HSF.out]; exact info_fields) ?_)
                | (refine wpList_load_g (by rfl) 25 (.tmp 30) rfl w.heap.size 2 rfl (fcells f) _ RF hu8 rfl (by rw [HFL.out]; exact info_fields) ?_)
                | (refine wpList_exec (by rfl) (.bool false) (exec_neq 25 _ (.tmp 29) (.tmp 31) rfl _ _ rfl rfl guard_arr true (HE.out _)) ?_))
              refine (HV.out _).mono ?_
              rintro e w2 ⟨rfl, hb⟩
              have hb2 := HEB.out.trans (hb.mono HEB.out.size)
              clear TH RS RF p1 HEB hb
              go_wp2_with fail
              go_ret
              exact ⟨by rw [HRR.out]; rfl, hb2⟩
            | true =>
              rw [hv] at HV HRV
              have HRR : Hid (R = 0) := hid (by rw [HRV.out]; rfl)
              clear hv
              go_wp2_with (first
                | (refine wpList_store_mid rfl 25 (.tmp 4) (.tmp 23) rfl w1.heap.size 0 (fcells sf).toArray rfl rfl (by simpa [HSF.out] using TH) (by simpa [HSF.out] using info_fields) (all_oneCell_toArray hone) ?_)
                | (refine wpList_load_g (by rfl) 25 (.tmp 4) rfl w1.heap.size 0 rfl (fcells sf) _ RS hu8 rfl (by rw [HSF.out]; exact info_fields) ?_)
                | (refine wpList_load_g (by rfl) 25 (.tmp 30) rfl w.heap.size 2 rfl (fcells f) _ RF hu8 rfl (by rw [HFL.out]; exact info_fields) ?_)
                | (refine wpList_exec (by rfl) (.bool false) (exec_neq 25 _ (.tmp 29) (.tmp 31) rfl _ _ rfl rfl guard_arr true (HE.out _)) ?_))
              refine (HV.out _).mono ?_
              rintro e w2 ⟨rfl, hb⟩
              have hb2 := HEB.out.trans (hb.mono HEB.out.size)
              clear TH RS RF p1 HEB hb
              go_wp2_with fail
              go_ret
              exact ⟨by rw [HRR.out]; rfl, hb2⟩
    · rw [decide_eq_false h1] at HM
      have HRR : Hid (R = 11) := hid (by rw [HR.out]; unfold pchk; rw [if_pos (.inl (by omega))])
      clear h1 h2
      go_enter Try.func44, Try.ntmps44
      go_wp2_with fail
      rw [HW.out]
      refine (HM.out _).mono ?_
      rintro e w' ⟨rfl, rfl⟩
      clear p0
      go_wp2_with fail
      go_ret
      exact ⟨by rw [HRR.out]; rfl, HB.out⟩
end Go.Proofs.Ytnhcjadkbogioaa
namespace Go.Proofs.Ytnhcjadkbogioaa
open Go Go.RowKit BitM OctM
def kl (f : List V3) (k : Nat) : List Int := ((List.range k).filter fun i => decide ((f.getD i zv).1 ≠ 0)).map fun i : Nat => (i : Int)
theorem lst_end {x : BitVec 32} {j : Nat} (h : ∀ i : Nat, j ≤ i → has x (i : Int) = false) : ∀ k, j ≤ k → lst x k = lst x j
  | 0, hk => by rw [show j = 0 by omega]
  | k + 1, hk => by
    by_cases e : j = k + 1
    · rw [e]
    · rw [lst_succ, h k (by omega), lst_end h k (by omega)]; simp
def pbs (x : BitVec 32) (lab : Int) (f : List V3) : List UInt8 := if pchk x lab f ≠ 0 then [] else (enc (held (x.toNat : Int)) ++ (if has x 8 = true then enc (held lab) else [])) ++ fbs (flds x) f
theorem fbs_len (L : List Int) (f : List V3) : (fbs L f).length ≤ 40 * L.length := by
  induction L with
  | nil => simp [fbs]
  | cons i L ih =>
    have := vbs_len (f.getD i.toNat zv)
    simp only [fbs, List.flatMap_cons, List.length_append, List.length_cons] at *
    omega
theorem flat2 {w : World} {A B : Option Addr} {n c m d : Nat} {l r : List UInt8} (T : TypeId) (hn : l.length = n) (hm : r.length = m) (hs : Sees w w.heap.size A (bvs l)) (ht : Sees w w.heap.size B (bvs r)) :
    FlatAt (w.alloc (.cells #[.slice A n c, .slice B m d] T)) w.heap.size [l, r] := fun k hk => by
  have hB := Blk.new w [.slice A n c, .slice B m d] T
  match k, hk with
  | 0, _ => exact ⟨A, c, by subst hn; exact hB.cell (j := 0) rfl, (hs.alloc (Nat.le_refl _) _).more (by simp)⟩
  | 1, _ => exact ⟨B, d, by subst hm; exact hB.cell (j := 1) rfl, (ht.alloc (Nat.le_refl _) _).more (by simp)⟩
def relSee (n : Nat) (l : List UInt8) : Rel where
  rel v w := ∃ A c, v = .slice A n c ∧ Sees w w.heap.size A (bvs l)
  mono := fun v w w' h ⟨A, c, e, hs⟩ => ⟨A, c, e, (hs.below h).more h.size⟩
  real := fun w ⟨A, c, e, _⟩ => by cases e
theorem gives_see {w : World} {xs : List UInt8} {n : Nat} (hn : xs.length = n) {e : Ending} {w' : World} (h : GivesBytes w xs e w') : ∃ v, e = .returned v ∧ Below w.heap.size w w' ∧ (relSee n xs).rel v w' := by
  obtain ⟨A, c, rfl, ho, hb⟩ := h
  subst hn
  exact ⟨_, rfl, hb, A, c, rfl, ho.sees⟩
end Go.Proofs.Ytnhcjadkbogioaa
namespace Go.Proofs.Ytnhcjadkbogioaa
open Go Go.RowKit OctM BitM
theorem numOut_err (l : List UInt8) (a : Nat) (e m : Int) (h : (numOut l a e m).2.2 ≠ 0) : (numOut l a e m).1 = 0 := by
  unfold numOut at *
  split at h
  · rename_i h1; rw [if_pos h1]
  · rename_i h1
    split at h
    · rename_i h2; rw [if_neg h1, if_pos h2]
    · rename_i h2
      split at h
      · rename_i h3; rw [if_neg h1, if_neg h2, if_pos h3]
      · exact absurd rfl h
end Go.Proofs.Ytnhcjadkbogioaa
