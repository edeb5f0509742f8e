/- Lists of lists of nodes: when two are alike; what Join returns, the program's and the document's. -/
import Derived.Test.YtgpbglmlakildaaPrdL
namespace Go.Proofs.Ytgpbglmlakildaa
set_option linter.unusedVariables false
set_option linter.unusedSimpArgs false
open Go Go.RowKit

/-- Lists of nodes, as a slice of slices shows them. -/
def SeesL (w : World) (A : Option Addr) (ks : List (List Nd)) : Prop := 0 < ks.length → ∃ b o, A = some ⟨b, o, none⟩ ∧ b < w.heap.size ∧ ∀ k (h : k < ks.length), ∃ A' c', w.cell? ⟨b, o + k, none⟩ = some (.slice A' ks[k].length c') ∧ Sees w w.heap.size A' (ncs ks[k])
theorem SeesL.later {w w' : World} {A : Option Addr} {ks : List (List Nd)} (h : SeesL w A ks) (hl : Below w.heap.size w w') : SeesL w' A ks := fun hp => by
  obtain ⟨b, o, e, hb, hk⟩ := h hp
  refine ⟨b, o, e, Nat.lt_of_lt_of_le hb hl.size, fun k hk2 => ?_⟩
  obtain ⟨A', c', h1, h2⟩ := hk k hk2
  exact ⟨A', c', (hl.cell (p := ⟨b, o + k, none⟩) hb).trans h1, (h2.below hl).more hl.size⟩
theorem SeesL.of_kept {w : World} {base base' : Nat} {A : Option Addr} {n c : Nat} {vs : List Value} {ks : List (List Nd)} (h : w.ownsRow base 22 1 (.slice A n c) n vs) (hk : Kept w base' vs ks) : SeesL w A ks := fun hp => by
  have hs := row_sees h
  obtain ⟨b, o, e, hb, hc⟩ := hs (by rw [hk.1]; exact hp)
  refine ⟨b, o, e, hb, fun k hk2 => ?_⟩
  obtain ⟨A', c', h1, h2⟩ := hk.2 k hk2
  have hkv : k < vs.length := by rw [hk.1]; exact hk2
  refine ⟨A', c', ?_, row_sees h2⟩
  rw [hc k hkv]
  rw [List.getElem?_eq_getElem hkv] at h1
  exact h1
theorem SeesL.two {w : World} {A0 A1 : Option Addr} {n0 c0 n1 c1 : Nat} {l0 l1 : List Nd} (h0 : l0.length = n0) (h1 : l1.length = n1) (s0 : Sees w w.heap.size A0 (ncs l0)) (s1 : Sees w w.heap.size A1 (ncs l1)) (t : TypeId) :
    SeesL (w.alloc (.cells #[.slice A0 n0 c0, .slice A1 n1 c1] t)) (some ⟨w.heap.size, 0, none⟩) [l0, l1] := fun _ => by
  have hb := (Below.refl w.heap.size w).alloc (Nat.le_refl _) (.cells #[.slice A0 n0 c0, .slice A1 n1 c1] t)
  have B := Blk.new w [.slice A0 n0 c0, .slice A1 n1 c1] t
  refine ⟨w.heap.size, 0, rfl, by simp, fun k hk => ?_⟩
  match k, hk with
  | 0, _ => exact ⟨A0, c0, by subst h0; exact B.cell (j := 0) rfl, (s0.below hb).more hb.size⟩
  | 1, _ => exact ⟨A1, c1, by subst h1; exact B.cell (j := 1) rfl, (s1.below hb).more hb.size⟩
theorem SeesL.single {w : World} {A0 : Option Addr} {n0 c0 : Nat} {l0 : List Nd} (h0 : l0.length = n0) (s0 : Sees w w.heap.size A0 (ncs l0)) (t : TypeId) :
    SeesL (w.alloc (.cells #[.slice A0 n0 c0] t)) (some ⟨w.heap.size, 0, none⟩) [l0] := fun _ => by
  have hb := (Below.refl w.heap.size w).alloc (Nat.le_refl _) (.cells #[.slice A0 n0 c0] t)
  have B := Blk.new w [.slice A0 n0 c0] t
  refine ⟨w.heap.size, 0, rfl, by simp, fun k hk => ?_⟩
  match k, hk with
  | 0, _ => exact ⟨A0, c0, by subst h0; exact B.cell (j := 0) rfl, (s0.below hb).more hb.size⟩

theorem flat_takeN {ls : List (List Nd)} {k : Nat} (h : k < ls.length) : (ls.take (k + 1)).flatten = (ls.take k).flatten ++ ls[k] := by
  rw [List.take_succ_eq_append_getElem h, List.flatten_append]; simp
theorem flat_leN {ls : List (List Nd)} (k : Nat) : (ls.take k).flatten.length ≤ ls.flatten.length := by
  have := congrArg List.length (congrArg List.flatten (List.take_append_drop k ls))
  rw [List.flatten_append, List.length_append] at this
  omega

set_option maxRecDepth 100000 in
set_option maxHeartbeats 3200000 in
theorem join_any (op : Int) (A : Option Addr) (N c : Nat) (ls : List (List Nd)) (w : World) (hN : ls.length = N) (hs : SeesL w A ls) (hN9 : N ≤ 1000) (hm : ls.flatten.length ≤ 60000) :
    Calls Try.prog 27 #[.int .i64 op, .slice A N c] w (GivesNodes w ((op, 0, zv) :: ls.flatten)) := by
  obtain ⟨i1, ji, jz0, jz1, jz2⟩ := info_parts info_noded
  have HN := Lib.hid hN
  have HM := Lib.hid hm
  have HS := Lib.hid hs
  obtain ⟨R, hR⟩ : ∃ R, R = (op, (0 : Int), zv) :: ls.flatten := ⟨_, rfl⟩
  have HR := Lib.hid hR
  rw [← hR]
  have R0 := row_lit w w.heap.size 29 5 1 #[.int .i64 op, .int .i64 0, .int .i64 0, .int .i64 0, .string ⟨#[]⟩] (Nat.le_refl _) (by simp [maxLen]) rfl
  have hb0 := (Below.refl w.heap.size w).alloc (Nat.le_refl _) (.cells #[.int .i64 op, .int .i64 0, .int .i64 0, .int .i64 0, .string ⟨#[]⟩] 29)
  clear hR hN hm hs
  unfold GivesNodes
  go_enter Try.func27, Try.ntmps27
  go_wp2_with fail
  go_loopw [13, 5] (fun i v wr => ∃ (k la : Nat) (acc : List Nd) (AO : Option Addr) (cO : Nat), k ≤ N ∧ i = .int .i64 k ∧ v = .slice AO la cO ∧ Hid (acc = (op, 0, zv) :: (ls.take k).flatten ∧ acc.length = la ∧ la ≤ 60001) ∧ wr.ownsRow w.heap.size 29 5 (.slice AO la cO) la (ncs acc) ∧ Below w.heap.size w wr) (fun i _ _ => N - (intOf i).toNat)
  case atStart => exact ⟨0, 1, [(op, 0, zv)], _, _, Nat.zero_le _, rfl, rfl, Lib.hid ⟨by simp, rfl, by omega⟩, R0, hb0⟩
  case round =>
    obtain ⟨k, la, acc, AO, cO, hk, rfl, rfl, HI, hrow, hbr⟩ := hrel
    clear R0 hb0
    by_cases hlt : k < N
    · have d1 : decide ((k : Int) < (N : Int)) = true := by simp; omega
      have hkl : k < ls.length := by rw [HN.out]; exact hlt
      obtain ⟨b, o, rfl, hb, hcs⟩ := (HS.out.later hbr) (by omega)
      obtain ⟨A2, c2, hc1, hs2⟩ := hcs k hkl
      have HNX : Hid (acc ++ ls[k] = (op, 0, zv) :: (ls.take (k + 1)).flatten ∧ (acc ++ ls[k]).length = la + ls[k].length ∧ la + ls[k].length ≤ 60001) := Lib.hid (by
        have h1 : acc ++ ls[k] = (op, 0, zv) :: (ls.take (k + 1)).flatten := by rw [HI.out.1, flat_takeN hkl]; rfl
        have h2 := congrArg List.length h1
        have h3 := flat_leN (ls := ls) (k + 1)
        have h4 := HM.out
        rw [List.length_append, HI.out.2.1, List.length_cons] at h2
        exact ⟨h1, by rw [List.length_append, HI.out.2.1], by omega⟩)
      obtain ⟨x, hx⟩ : ∃ x, x = ls[k] := ⟨_, rfl⟩
      obtain ⟨m, hm0⟩ : ∃ m, m = x.length := ⟨_, rfl⟩
      rw [← hx, ← hm0] at hc1 HNX
      rw [← hx] at hs2
      have HXM := Lib.hid hm0.symm
      have hlm := HNX.out.2.2
      have hbz := hbr.size
      clear hx hm0 hcs
      go_wp2_with (first
        | (at_builtin
           refine wpList_appk _ rfl (.tmp 17) (.tmp 18) 22 rfl w.heap.size 29 i1 _ 5 48 Try.underlying22 ji jz0 jz1 jz2 rfl (by decide) (.slice AO la cO) la (ncs acc) rfl hrow wr.heap.size A2 c2 (ncs x) m rfl (by rw [ncs_len, HXM.out]; omega) hs2 (ncs_one x) (by unfold maxLen; omega) (by omega) hbz ?_
           intro A3 c3 w3 hr3 hb3 hg3 hat3)
        | fail)
      rw [← ncs_append] at hr3
      go_roundw
      case rel => exact ⟨k + 1, la + m, acc ++ x, A3, c3, by omega, by go_num, rfl, HNX, hr3, hbr.trans hb3⟩
      case measure => simp [intOf]; omega
    · obtain rfl : k = N := by omega
      have HA : Hid (acc = R ∧ acc.length = la) := Lib.hid ⟨by rw [HI.out.1, HR.out, List.take_of_length_le (by rw [HN.out]; exact Nat.le_refl _)], HI.out.2.1⟩
      have HROW := Lib.hid hrow
      clear hrow
      go_wp2_with fail
      go_ret
      rw [← HA.out.1, HA.out.2]
      exact ⟨AO, cO, rfl, HROW.out, hbr⟩

set_option maxRecDepth 100000 in
set_option maxHeartbeats 3200000 in
theorem rjoin_any (op : Int) (A : Option Addr) (N c : Nat) (ls : List (List Nd)) (w : World) (hN : ls.length = N) (hs : SeesL w A ls) (hN9 : N ≤ 1000) (hm : ls.flatten.length ≤ 60000) :
    Calls Try.prog 28 #[.int .i64 op, .slice A N c] w (GivesNodes w ((op, 0, zv) :: ls.flatten)) := by
  obtain ⟨i1, ji, jz0, jz1, jz2⟩ := info_parts info_noded
  have HN := Lib.hid hN
  have HM := Lib.hid hm
  have HS := Lib.hid hs
  obtain ⟨R, hR⟩ : ∃ R, R = (op, (0 : Int), zv) :: ls.flatten := ⟨_, rfl⟩
  have HR := Lib.hid hR
  rw [← hR]
  have R0 := row_lit w w.heap.size 29 5 1 #[.int .i64 op, .int .i64 0, .int .i64 0, .int .i64 0, .string ⟨#[]⟩] (Nat.le_refl _) (by simp [maxLen]) rfl
  have hb0 := (Below.refl w.heap.size w).alloc (Nat.le_refl _) (.cells #[.int .i64 op, .int .i64 0, .int .i64 0, .int .i64 0, .string ⟨#[]⟩] 29)
  clear hR hN hm hs
  unfold GivesNodes
  go_enter Try.func28, Try.ntmps28
  go_wp2_with fail
  go_loopw [6, 5] (fun i v wr => ∃ (k la : Nat) (acc : List Nd) (AO : Option Addr) (cO : Nat), k ≤ N ∧ i = .int .i64 k ∧ v = .slice AO la cO ∧ Hid (acc = (op, 0, zv) :: (ls.take k).flatten ∧ acc.length = la ∧ la ≤ 60001) ∧ wr.ownsRow w.heap.size 29 5 (.slice AO la cO) la (ncs acc) ∧ Below w.heap.size w wr) (fun i _ _ => N - (intOf i).toNat)
  case atStart => exact ⟨0, 1, [(op, 0, zv)], _, _, Nat.zero_le _, rfl, rfl, Lib.hid ⟨by simp, rfl, by omega⟩, R0, hb0⟩
  case round =>
    obtain ⟨k, la, acc, AO, cO, hk, rfl, rfl, HI, hrow, hbr⟩ := hrel
    clear R0 hb0
    by_cases hlt : k < N
    · have d1 : decide ((k : Int) < (N : Int)) = true := by simp; omega
      have hkl : k < ls.length := by rw [HN.out]; exact hlt
      obtain ⟨b, o, rfl, hb, hcs⟩ := (HS.out.later hbr) (by omega)
      obtain ⟨A2, c2, hc1, hs2⟩ := hcs k hkl
      have HNX : Hid (acc ++ ls[k] = (op, 0, zv) :: (ls.take (k + 1)).flatten ∧ (acc ++ ls[k]).length = la + ls[k].length ∧ la + ls[k].length ≤ 60001) := Lib.hid (by
        have h1 : acc ++ ls[k] = (op, 0, zv) :: (ls.take (k + 1)).flatten := by rw [HI.out.1, flat_takeN hkl]; rfl
        have h2 := congrArg List.length h1
        have h3 := flat_leN (ls := ls) (k + 1)
        have h4 := HM.out
        rw [List.length_append, HI.out.2.1, List.length_cons] at h2
        exact ⟨h1, by rw [List.length_append, HI.out.2.1], by omega⟩)
      obtain ⟨x, hx⟩ : ∃ x, x = ls[k] := ⟨_, rfl⟩
      obtain ⟨m, hm0⟩ : ∃ m, m = x.length := ⟨_, rfl⟩
      rw [← hx, ← hm0] at hc1 HNX
      rw [← hx] at hs2
      have HXM := Lib.hid hm0.symm
      have hlm := HNX.out.2.2
      have hbz := hbr.size
      clear hx hm0 hcs
      go_wp2_with (first
        | (at_builtin
           refine wpList_appk _ rfl (.tmp 16) (.tmp 20) 22 rfl w.heap.size 29 i1 _ 5 48 Try.underlying22 ji jz0 jz1 jz2 rfl (by decide) (.slice AO la cO) la (ncs acc) rfl hrow wr.heap.size A2 c2 (ncs x) m rfl (by rw [ncs_len, HXM.out]; omega) hs2 (ncs_one x) (by unfold maxLen; omega) (by omega) hbz ?_
           intro A3 c3 w3 hr3 hb3 hg3 hat3)
        | fail)
      rw [← ncs_append] at hr3
      go_roundw
      case rel => exact ⟨k + 1, la + m, acc ++ x, A3, c3, by omega, by go_num, rfl, HNX, hr3, hbr.trans hb3⟩
      case measure => simp [intOf]; omega
    · obtain rfl : k = N := by omega
      have HA : Hid (acc = R ∧ acc.length = la) := Lib.hid ⟨by rw [HI.out.1, HR.out, List.take_of_length_le (by rw [HN.out]; exact Nat.le_refl _)], HI.out.2.1⟩
      have HROW := Lib.hid hrow
      clear hrow
      go_wp2_with fail
      go_ret
      rw [← HA.out.1, HA.out.2]
      exact ⟨AO, cO, rfl, HROW.out, hbr⟩

set_option maxRecDepth 100000 in
set_option maxHeartbeats 3200000 in
theorem rlists_len (A : Option Addr) (n c : Nat) (ks : List (List Nd)) (A' : Option Addr) (c' : Nat) (ms : List (List Nd)) (w : World) (hn : ks.length = n) (hn' : ms.length = n) (hs : SeesL w A ks) (hs' : SeesL w A' ms) (hn9 : n ≤ 1000) (hm : ∀ k ∈ ks, k.length ≤ 65536) :
    Calls Try.prog 29 #[.slice A n c, .slice A' n c'] w fun e w' => e = .returned (.bool (decide (ks = ms))) ∧ Below w.heap.size w w' := by
  have HN := Lib.hid hn
  have HN' := Lib.hid hn'
  have HM := Lib.hid hm
  obtain ⟨R, hR⟩ : ∃ R, R = decide (ks = ms) := ⟨_, rfl⟩
  have HR := Lib.hid hR
  rw [← hR]
  clear hn hn' hR hm
  have hbe : ((n : Int) != (n : Int)) = false := by simp
  go_enter Try.func29, Try.ntmps29
  go_wp2_with fail
  go_loopw [5] (fun i wr => ∃ k : Nat, k ≤ n ∧ i = .int .i64 k ∧ Hid (ks.take k = ms.take k) ∧ Below w.heap.size w wr) (fun i _ => n - (intOf i).toNat)
  case atStart => exact ⟨0, Nat.zero_le _, rfl, Lib.hid (by simp), Below.refl _ _⟩
  case round =>
    obtain ⟨k, hk, rfl, HP, hbr⟩ := hrel
    by_cases hlt : k < n
    · have d1 : decide ((k : Int) < (n : Int)) = true := by simp; omega
      have hkl : k < ks.length := by rw [HN.out]; exact hlt
      have hkm : k < ms.length := by rw [HN'.out]; exact hlt
      obtain ⟨b, o, rfl, hb, hcs⟩ := (hs.later hbr) (by omega)
      obtain ⟨A2, c2, hc1, hs2⟩ := hcs k hkl
      obtain ⟨b', o', rfl, hb', hcs'⟩ := (hs'.later hbr) (by omega)
      obtain ⟨A2', c2', hc1', hs2'⟩ := hcs' k hkm
      have hl1 : ∀ kk : LW wr, kk.val.cell? ⟨b, o + k, none⟩ = some (.slice A2 ks[k].length c2) := fun kk => (kk.le.cell (p := ⟨b, o + k, none⟩) hb).trans hc1
      have hl2 : ∀ kk : LW wr, kk.val.cell? ⟨b', o' + k, none⟩ = some (.slice A2' ms[k].length c2') := fun kk => (kk.le.cell (p := ⟨b', o' + k, none⟩) hb').trans hc1'
      have HSM := Lib.hid (fun wx (hl : Le wr wx) => rsame_any A2 ks[k].length c2 ks[k] A2' ms[k].length c2' ms[k] wx rfl rfl ((hs2.below hl).more hl.size) ((hs2'.below hl).more hl.size) (HM.out _ (List.getElem_mem hkl)))
      have HX : Hid (decide (ks[k] = ms[k]) = true → ks.take (k + 1) = ms.take (k + 1)) := Lib.hid (fun h => by rw [List.take_succ_eq_append_getElem hkl, List.take_succ_eq_append_getElem hkm, HP.out, of_decide_eq_true h])
      have HY : Hid (decide (ks[k] = ms[k]) = false → R = false) := Lib.hid (fun h => by
        rw [HR.out]
        refine decide_eq_false fun e => of_decide_eq_false h ?_
        subst e
        rfl)
      obtain ⟨q, hq⟩ : ∃ q, q = decide (ks[k] = ms[k]) := ⟨_, rfl⟩
      rw [← hq] at HSM HX HY
      obtain ⟨m1, hm1⟩ : ∃ m, m = ks[k].length := ⟨_, rfl⟩
      obtain ⟨m2, hm2⟩ : ∃ m, m = ms[k].length := ⟨_, rfl⟩
      rw [← hm1] at hl1 HSM
      rw [← hm2] at hl2 HSM
      clear hq hm1 hm2 hcs hcs' hc1 hc1' hs2 hs2'
      go_wp2_with fail
      refine wp_region_steady [] 27 (by kernel_rfl) (by kernel_rfl) (by kernel_rfl) (by rfl) ?_
      iterate 8 (refine wpG_quiet (by rfl) (by rfl) (by rfl) (fun K hK => ?_); go_big_quiet_op; refine hK _ ?_; clear hK K)
      refine wpG_call (by rfl) (by rfl) 26 #[.slice A2 m1 c2, .slice A2' m2 c2'] (.bool q) (by intro _; simp [go_sem]) (by kernel_rfl) (fun w1 hl => HSM.out w1 hl.1) ?_
      simp only [Act.put, List.setIfInBounds_toArray, List.set_cons_zero, List.set_cons_succ]
      iterate 1 (refine wpG_quiet (by rfl) (by rfl) (by rfl) (fun K hK => ?_); go_big_quiet_op; refine hK _ ?_; clear hK K)
      refine wpG_nil fun w1 hl _ => ?_
      have hb1 := hbr.trans (hl.mono hbr.size)
      clear hbr hl1 hl2
      cases q with
      | true =>
        have HX2 := Lib.hid (HX.out rfl)
        go_wp2_with fail
        go_roundw
        case rel => exact ⟨k + 1, by omega, by go_num, HX2, hb1⟩
        case measure => simp [intOf]; omega
      | false =>
        have HRR := Lib.hid (HY.out rfl)
        go_wp2_with fail
        go_ret
        exact ⟨by rw [HRR.out]; rfl, hb1⟩
    · obtain rfl : k = n := by omega
      have HRR : Hid (R = true) := Lib.hid (by
        have := HP.out
        rw [List.take_of_length_le (by rw [HN.out]; exact Nat.le_refl _), List.take_of_length_le (by rw [HN'.out]; exact Nat.le_refl _)] at this
        rw [HR.out]
        exact decide_eq_true this)
      go_wp2_with fail
      go_ret
      exact ⟨by rw [HRR.out]; rfl, hbr⟩
end Go.Proofs.Ytgpbglmlakildaa
