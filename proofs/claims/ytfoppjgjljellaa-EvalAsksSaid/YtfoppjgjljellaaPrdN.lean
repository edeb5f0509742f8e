/- Lists of lists of nodes: when two are alike; what Join returns, the program's and the document's. -/
import Derived.Test.YtfoppjgjljellaaPrdL
namespace Go.Proofs.Ytfoppjgjljellaa
set_option linter.unusedVariables false
set_option linter.unusedSimpArgs false
open Go Go.RowKit

/-- Lists of nodes, as a slice of slices shows them. -/
def SeesL (w : World) (A : Option Addr) (ks : List (List Nd)) : Prop := 0 < ks.length → ∃ b o, A = some ⟨b, o, none⟩ ∧ b < w.heap.size ∧ ∀ k (h : k < ks.length), ∃ A' c', w.cell? ⟨b, o + k, none⟩ = some (.slice A' ks[k].length c') ∧ Sees w w.heap.size A' (ncs ks[k])
theorem SeesL.later {w w' : World} {A : Option Addr} {ks : List (List Nd)} (h : SeesL w A ks) (hl : Below w.heap.size w w') : SeesL w' A ks := fun hp => by
  obtain ⟨b, o, e, hb, hk⟩ := h hp
  refine ⟨b, o, e, Nat.lt_of_lt_of_le hb hl.size, fun k hk2 => ?_⟩
  obtain ⟨A', c', h1, h2⟩ := hk k hk2
  exact ⟨A', c', (hl.cell (p := ⟨b, o + k, none⟩) hb).trans h1, (h2.below hl).more hl.size⟩
theorem SeesL.of_kept {w : World} {base base' : Nat} {A : Option Addr} {n c : Nat} {vs : List Value} {ks : List (List Nd)} (h : w.ownsRow base 22 1 (.slice A n c) n vs) (hk : Kept w base' vs ks) : SeesL w A ks := fun hp => by
  have hs := row_sees h
  obtain ⟨b, o, e, hb, hc⟩ := hs (by rw [hk.1]; exact hp)
  refine ⟨b, o, e, hb, fun k hk2 => ?_⟩
  obtain ⟨A', c', h1, h2⟩ := hk.2 k hk2
  have hkv : k < vs.length := by rw [hk.1]; exact hk2
  refine ⟨A', c', ?_, row_sees h2⟩
  rw [hc k hkv]
  rw [List.getElem?_eq_getElem hkv] at h1
  exact h1
theorem SeesL.two {w : World} {A0 A1 : Option Addr} {n0 c0 n1 c1 : Nat} {l0 l1 : List Nd} (h0 : l0.length = n0) (h1 : l1.length = n1) (s0 : Sees w w.heap.size A0 (ncs l0)) (s1 : Sees w w.heap.size A1 (ncs l1)) (t : TypeId) :
    SeesL (w.alloc (.cells #[.slice A0 n0 c0, .slice A1 n1 c1] t)) (some ⟨w.heap.size, 0, none⟩) [l0, l1] := fun _ => by
  have hb := (Below.refl w.heap.size w).alloc (Nat.le_refl _) (.cells #[.slice A0 n0 c0, .slice A1 n1 c1] t)
  have B := Blk.new w [.slice A0 n0 c0, .slice A1 n1 c1] t
  refine ⟨w.heap.size, 0, rfl, by simp, fun k hk => ?_⟩
  match k, hk with
  | 0, _ => exact ⟨A0, c0, by subst h0; exact B.cell (j := 0) rfl, (s0.below hb).more hb.size⟩
  | 1, _ => exact ⟨A1, c1, by subst h1; exact B.cell (j := 1) rfl, (s1.below hb).more hb.size⟩
theorem SeesL.single {w : World} {A0 : Option Addr} {n0 c0 : Nat} {l0 : List Nd} (h0 : l0.length = n0) (s0 : Sees w w.heap.size A0 (ncs l0)) (t : TypeId) :
    SeesL (w.alloc (.cells #[.slice A0 n0 c0] t)) (some ⟨w.heap.size, 0, none⟩) [l0] := fun _ => by
  have hb := (Below.refl w.heap.size w).alloc (Nat.le_refl _) (.cells #[.slice A0 n0 c0] t)
  have B := Blk.new w [.slice A0 n0 c0] t
  refine ⟨w.heap.size, 0, rfl, by simp, fun k hk => ?_⟩
  match k, hk with
  | 0, _ => exact ⟨A0, c0, by subst h0; exact B.cell (j := 0) rfl, (s0.below hb).more hb.size⟩

theorem flat_takeN {ls : List (List Nd)} {k : Nat} (h : k < ls.length) : (ls.take (k + 1)).flatten = (ls.take k).flatten ++ ls[k] := by
  rw [List.take_succ_eq_append_getElem h, List.flatten_append]; simp
theorem flat_leN {ls : List (List Nd)} (k : Nat) : (ls.take k).flatten.length ≤ ls.flatten.length := by
  have := congrArg List.length (congrArg List.flatten (List.take_append_drop k ls))
  rw [List.flatten_append, List.length_append] at this
  omega

set_option maxRecDepth 100000 in
set_option maxHeartbeats 3200000 in
theorem rjoin_any (op : Int) (A : Option Addr) (N c : Nat) (ls : List (List Nd)) (w : World) (hN : ls.length = N) (hs : SeesL w A ls) (hN9 : N ≤ 1000) (hm : ls.flatten.length ≤ 60000) :
    Calls Try.prog 24 #[.int .i64 op, .slice A N c] w (GivesNodes w ((op, 0, zv) :: ls.flatten)) := by
  obtain ⟨i1, ji, jz0, jz1, jz2⟩ := info_parts info_noded
  have HN := Lib.hid hN
  have HM := Lib.hid hm
  have HS := Lib.hid hs
  obtain ⟨R, hR⟩ : ∃ R, R = (op, (0 : Int), zv) :: ls.flatten := ⟨_, rfl⟩
  have HR := Lib.hid hR
  rw [← hR]
  have R0 := row_lit w w.heap.size 57 5 1 #[.int .i64 op, .int .i64 0, .int .i64 0, .int .i64 0, .string ⟨#[]⟩] (Nat.le_refl _) (by simp [maxLen]) rfl
  have hb0 := (Below.refl w.heap.size w).alloc (Nat.le_refl _) (.cells #[.int .i64 op, .int .i64 0, .int .i64 0, .int .i64 0, .string ⟨#[]⟩] 57)
  clear hR hN hm hs
  unfold GivesNodes
  go_enter Try.func24, Try.ntmps24
  go_wp2_with fail
  go_loopw [6, 5] (fun i v wr => ∃ (k la : Nat) (acc : List Nd) (AO : Option Addr) (cO : Nat), k ≤ N ∧ i = .int .i64 k ∧ v = .slice AO la cO ∧ Hid (acc = (op, 0, zv) :: (ls.take k).flatten ∧ acc.length = la ∧ la ≤ 60001) ∧ wr.ownsRow w.heap.size 57 5 (.slice AO la cO) la (ncs acc) ∧ Below w.heap.size w wr) (fun i _ _ => N - (intOf i).toNat)
  case atStart => exact ⟨0, 1, [(op, 0, zv)], _, _, Nat.zero_le _, rfl, rfl, Lib.hid ⟨by simp, rfl, by omega⟩, R0, hb0⟩
  case round =>
    obtain ⟨k, la, acc, AO, cO, hk, rfl, rfl, HI, hrow, hbr⟩ := hrel
    clear R0 hb0
    by_cases hlt : k < N
    · have d1 : decide ((k : Int) < (N : Int)) = true := by simp; omega
      have hkl : k < ls.length := by rw [HN.out]; exact hlt
      obtain ⟨b, o, rfl, hb, hcs⟩ := (HS.out.later hbr) (by omega)
      obtain ⟨A2, c2, hc1, hs2⟩ := hcs k hkl
      have HNX : Hid (acc ++ ls[k] = (op, 0, zv) :: (ls.take (k + 1)).flatten ∧ (acc ++ ls[k]).length = la + ls[k].length ∧ la + ls[k].length ≤ 60001) := Lib.hid (by
        have h1 : acc ++ ls[k] = (op, 0, zv) :: (ls.take (k + 1)).flatten := by rw [HI.out.1, flat_takeN hkl]; rfl
        have h2 := congrArg List.length h1
        have h3 := flat_leN (ls := ls) (k + 1)
        have h4 := HM.out
        rw [List.length_append, HI.out.2.1, List.length_cons] at h2
        exact ⟨h1, by rw [List.length_append, HI.out.2.1], by omega⟩)
      obtain ⟨x, hx⟩ : ∃ x, x = ls[k] := ⟨_, rfl⟩
      obtain ⟨m, hm0⟩ : ∃ m, m = x.length := ⟨_, rfl⟩
      rw [← hx, ← hm0] at hc1 HNX
      rw [← hx] at hs2
      have HXM := Lib.hid hm0.symm
      have hlm := HNX.out.2.2
      have hbz := hbr.size
      clear hx hm0 hcs
      go_wp2_with (first
        | (at_builtin
           refine wpList_appk _ rfl (.tmp 16) (.tmp 20) 22 rfl w.heap.size 57 i1 _ 5 48 Try.underlying22 ji jz0 jz1 jz2 rfl (by decide) (.slice AO la cO) la (ncs acc) rfl hrow wr.heap.size A2 c2 (ncs x) m rfl (by rw [ncs_len, HXM.out]; omega) hs2 (ncs_one x) (by unfold maxLen; omega) (by omega) hbz ?_
           intro A3 c3 w3 hr3 hb3 hg3 hat3)
        | fail)
      rw [← ncs_append] at hr3
      go_roundw
      case rel => exact ⟨k + 1, la + m, acc ++ x, A3, c3, by omega, by go_num, rfl, HNX, hr3, hbr.trans hb3⟩
      case measure => simp [intOf]; omega
    · obtain rfl : k = N := by omega
      have HA : Hid (acc = R ∧ acc.length = la) := Lib.hid ⟨by rw [HI.out.1, HR.out, List.take_of_length_le (by rw [HN.out]; exact Nat.le_refl _)], HI.out.2.1⟩
      have HROW := Lib.hid hrow
      clear hrow
      go_wp2_with fail
      go_ret
      rw [← HA.out.1, HA.out.2]
      exact ⟨AO, cO, rfl, HROW.out, hbr⟩

end Go.Proofs.Ytfoppjgjljellaa
