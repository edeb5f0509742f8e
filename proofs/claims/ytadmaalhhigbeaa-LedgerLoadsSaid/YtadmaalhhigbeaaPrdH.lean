/- How deep a filter is: what the document returns. -/
import Derived.Test.YtadmaalhhigbeaaPrdG
namespace Go.Proofs.Ytadmaalhhigbeaa
set_option linter.unusedVariables false
set_option linter.unusedSimpArgs false
open Go Go.RowKit

theorem row_cap {w : World} {base : Nat} {e : TypeId} {size n : Nat} {A : Option Addr} {c : Nat} {xs : List Value} (h : w.ownsRow base e size (.slice A n c) n xs) : n ≤ c := by
  rcases h.2 with ⟨hv, h0⟩ | ⟨g, cap, cur, hv, _, _, hnc, _⟩
  · injection hv with h1 h2 h3; omega
  · injection hv with h1 h2 h3; subst h3; exact hnc

set_option maxRecDepth 100000 in
set_option maxHeartbeats 3200000 in
theorem rdepth_step (A : Option Addr) (n c : Nat) (l : List Nd) (w : World) (hn : l.length = n) (hs : Sees w w.heap.size A (ncs l)) (hc : n ≤ c) (hm : n ≤ 65536)
    (IH : ∀ (k : List Nd) (A : Option Addr) (c : Nat) (wx : World), k.length < n → Sees wx wx.heap.size A (ncs k) → k.length ≤ c → Calls Try.prog 68 #[.slice A k.length c] wx fun e w' => e = .returned (.int .i64 (dep k)) ∧ Below wx.heap.size wx w') :
    Calls Try.prog 68 #[.slice A n c] w fun e w' => e = .returned (.int .i64 (dep l)) ∧ Below w.heap.size w w' := by
  cases l with
  | nil =>
    obtain rfl : n = 0 := by rw [← hn]; rfl
    have HR : Hid (dep [] = 0) := Lib.hid (dep_not (by unfold Wood; intro h; cases h))
    clear IH hn hs
    go_enter Try.func68, Try.ntmps68
    go_wp2_with fail
    go_ret
    exact ⟨by rw [HR.out]; rfl, Below.refl _ _⟩
  | cons x l' =>
    have hpos : 0 < n := by rw [← hn]; simp
    have b0 : ((n : Int) == 0) = false := by simp; omega
    by_cases hw : Wood (x :: l') 1
    · have HE := Lib.hid (rend_any A n c (x :: l') 0 w w.heap.size hn hs hm)
      rw [show endAt (x :: l') 0 = (n : Int) by rw [(wood_end _).2 hw, hn]] at HE
      obtain ⟨j0, hj, hw0⟩ := wood_cons hw
      have hw1 : Wood l' (par x.1) := by
        have h1 := hw0
        rwa [show j0 = 0 by omega, Nat.zero_add] at h1
      clear hj hw0 j0
      have hHK := rkids_any A n c (x :: l') 0 w hn hs hc hm (by simp) l'.length hw1
      have hkw := fun k hk => kids_wood (l := l') (p := par x.1) (N := l'.length) hw1 k hk
      have hR := dep_kids hw
      obtain ⟨ks, hks⟩ : ∃ ks, ks = kidsOf l' (par x.1) := ⟨_, rfl⟩
      have HK := Lib.hid (show Calls Try.prog 94 #[.slice A n c, .int .i64 0] w (GivesKids w ks) from by rw [hks]; exact hHK)
      rw [← hks] at hR hkw
      have HKL : Hid (∀ k ∈ ks, k.length < n) := Lib.hid (fun k hk => by have := (hkw k hk).2; rw [← hn, List.length_cons]; omega)
      have HR := Lib.hid hR
      have HIH := Lib.hid IH
      have hkn : ks.length ≤ 2 := by
        rw [hks, kids_len hw1]
        exact par_le x.1
      have hrl : dep (x :: l') ≤ n := by rw [← hn]; exact dep_le _
      obtain ⟨R, hR0⟩ : ∃ R, R = dep (x :: l') := ⟨_, rfl⟩
      rw [← hR0] at HR hrl ⊢
      obtain ⟨m, hm0⟩ : ∃ m, m = ks.length := ⟨_, rfl⟩
      have HM := Lib.hid hm0
      rw [← hm0] at hkn
      clear hR hR0 hHK hkw hks hw1 hw IH hn hs hm0
      unfold GivesKids at HK
      rw [← HM.out] at HK
      go_enter Try.func68, Try.ntmps68
      go_wp2_with fail
      refine HE.out.mono ?_
      rintro e w1 ⟨rfl, rfl⟩
      go_wp2_with fail
      refine HK.out.mono ?_
      rintro e w1 ⟨AK, cK, vs, rfl, hrow, hkept, hb⟩
      have hse := row_sees hrow
      clear HE HK
      go_wp2_with fail
      go_loopw [4, 5] (fun d i wr => ∃ y : Nat, y ≤ m ∧ i = .int .i64 y ∧ (∃ D : Int, d = .int .i64 D ∧ Hid (D = ((((ks.map dep).take y).foldl max 0 : Nat) : Int))) ∧ Below w1.heap.size w1 wr) (fun _ i _ => m - (intOf i).toNat)
      case atStart => exact ⟨0, by omega, rfl, ⟨0, rfl, Lib.hid rfl⟩, Below.refl _ _⟩
      case round =>
        obtain ⟨y, hy, rfl, ⟨D, rfl, HD⟩, hbr⟩ := hrel
        by_cases hlt : y < m
        · have hyk : y < ks.length := by rw [← HM.out]; exact hlt
          obtain ⟨A2, c2, hv, hro⟩ := (hkept.later hbr).2 y hyk
          have hvl : y < vs.length := by rw [hkept.1]; exact hyk
          obtain ⟨b3, o3, rfl, hb3, hc3⟩ := hse (by omega)
          have hcc : wr.cell? ⟨b3, o3 + y, none⟩ = some (.slice A2 ks[y].length c2) := by
            have := hc3 y hvl
            rw [List.getElem?_eq_getElem hvl] at hv
            injection hv with hv
            rw [hv] at this
            exact (hbr.cell (p := ⟨b3, o3 + y, none⟩) hb3).trans this
          have hkl := HKL.out ks[y] (List.getElem_mem hyk)
          have HC := Lib.hid (HIH.out ks[y] A2 c2 wr hkl (row_sees hro) (row_cap hro))
          have HT : Hid ((((ks.map dep).take (y + 1)).foldl max 0 : Nat) = max (((ks.map dep).take y).foldl max 0) (dep ks[y])) := Lib.hid (by
            rw [List.take_succ_eq_append_getElem (by simpa using hyk), List.foldl_append, List.getElem_map]
            rfl)
          obtain ⟨dk, hdk⟩ : ∃ dk, dk = dep ks[y] := ⟨_, rfl⟩
          rw [← hdk] at HC HT
          obtain ⟨nk, hnk⟩ : ∃ nk, nk = ks[y].length := ⟨_, rfl⟩
          rw [← hnk] at HC hcc hkl
          clear hdk hnk hro hv hc3 hrow hkept
          go_wp2_with fail
          refine HC.out.mono ?_
          rintro e w2 ⟨rfl, hb2⟩
          have hb4 := hbr.trans (hb2.mono hbr.size)
          go_wp2_with fail
          all_goals
            go_roundw
            case rel => exact ⟨y + 1, by omega, by go_num, ⟨_, rfl, Lib.hid (by rw [HT.out]; have := HD.out; omega)⟩, hb4⟩
            case measure => simp [intOf]; omega
        · obtain rfl : y = m := by omega
          have HDD : Hid (D + 1 = (R : Int)) := Lib.hid (by
            rw [HR.out, HD.out, List.take_of_length_le (by rw [List.length_map, HM.out]; exact Nat.le_refl _)]
            rfl)
          have hDR : D + 1 = R := HDD.out
          have hD0 : D ≤ 65536 := by omega
          have hD1 : 0 ≤ D := by rw [HD.out]; omega
          clear hDR
          go_wp2_with fail
          go_ret
          exact ⟨by rw [← HDD.out]; rfl, hb.trans (hbr.mono hb.size)⟩
    · have HE := Lib.hid (rend_any A n c (x :: l') 0 w w.heap.size hn hs hm)
      have b1 : (endAt (x :: l') 0 != (n : Int)) = true := by
        rw [bne_iff_ne, ← hn]
        exact fun h => hw ((wood_end _).1 h)
      have HR := Lib.hid (dep_not hw)
      generalize endAt (x :: l') 0 = z at HE b1
      clear hw hs hn IH
      go_enter Try.func68, Try.ntmps68
      go_wp2_with fail
      refine HE.out.mono ?_
      rintro e w1 ⟨rfl, rfl⟩
      go_wp2_with fail
      go_ret
      exact ⟨by rw [HR.out]; rfl, Below.refl _ _⟩
theorem rdepth_any (A : Option Addr) (n c : Nat) (l : List Nd) (w : World) (hn : l.length = n) (hs : Sees w w.heap.size A (ncs l)) (hc : n ≤ c) (hm : n ≤ 65536) :
    Calls Try.prog 68 #[.slice A n c] w fun e w' => e = .returned (.int .i64 (dep l)) ∧ Below w.heap.size w w' := by
  have key : ∀ (N : Nat) (l : List Nd) (A : Option Addr) (c : Nat) (w : World), l.length ≤ N → l.length ≤ 65536 → Sees w w.heap.size A (ncs l) → l.length ≤ c →
      Calls Try.prog 68 #[.slice A l.length c] w fun e w' => e = .returned (.int .i64 (dep l)) ∧ Below w.heap.size w w' := by
    intro N
    induction N with
    | zero => exact fun l A c w h1 h2 hs hc => rdepth_step A l.length c l w rfl hs hc h2 (fun k A c wx hk => absurd hk (by omega))
    | succ N ih => exact fun l A c w h1 h2 hs hc => rdepth_step A l.length c l w rfl hs hc h2 (fun k A c wx hk hs hc => ih k A c wx (by omega) (by omega) hs hc)
  subst hn
  exact key l.length l A c w (Nat.le_refl _) hm hs hc
end Go.Proofs.Ytadmaalhhigbeaa
