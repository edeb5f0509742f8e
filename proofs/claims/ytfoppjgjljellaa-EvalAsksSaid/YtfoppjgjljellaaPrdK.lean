/- A filter's parts: slices.Clone of nodes, and what the program's Kids returns. -/
import Derived.Test.YtfoppjgjljellaaPrdG
namespace Go.Proofs.Ytfoppjgjljellaa
set_option linter.unusedVariables false
set_option linter.unusedSimpArgs false
open Go Go.RowKit

/-- What a call gives that tells nodes, in a row of its own. -/
def GivesNodes (w : World) (l : List Nd) : Ending → World → Prop := fun e w' => ∃ A c, e = .returned (.slice A l.length c) ∧ w'.ownsRow w.heap.size 57 5 (.slice A l.length c) l.length (ncs l) ∧ Below w.heap.size w w'
set_option maxRecDepth 100000 in
set_option maxHeartbeats 1600000 in
theorem clone_nodes (A : Option Addr) (n c : Nat) (l : List Nd) (w : World) (hn : l.length = n) (hs : Sees w w.heap.size A (ncs l)) (hm : n ≤ 65536) :
    Calls Try.prog 26 #[.slice A n c] w (GivesNodes w l) := by
  obtain ⟨i1, ji, jz0, jz1, jz2⟩ := info_parts info_noded
  subst hn
  rcases A with _ | ad
  · have hl : l = [] := by
      rcases l with _ | ⟨x, l⟩
      · rfl
      · obtain ⟨b, o, h, _⟩ := hs (by rw [ncs_len]; simp)
        cases h
    subst hl
    have hq := fun wx => Lib.run_eql_slice_nil (P := Try.prog) wx 22 57 none 0 c 0 0 Try.underlying22
    go_enter Try.func26, Try.ntmps26
    go_wp2
    go_ret
    exact ⟨none, 0, rfl, World.ownsRow_nil _ _ _ _, Below.refl _ _⟩
  · have hq := fun wx => Lib.run_eql_slice_nil (P := Try.prog) wx 22 57 (some ad) l.length c 0 0 Try.underlying22
    have R1 := row_lit w w.heap.size 57 5 0 #[] (Nat.le_refl _) (by simp [maxLen]) rfl
    go_enter Try.func26, Try.ntmps26
    go_wp2_with (first
      | (at_builtin
         refine wpList_appk _ rfl (.tmp 5) (.tmp 6) 22 rfl w.heap.size 57 i1 _ 5 48 Try.underlying22 ji jz0 jz1 jz2 rfl (by decide) (.slice (some ⟨w.heap.size, 0, none⟩) 0 0) 0 [] rfl R1 w.heap.size (some ad) c (ncs l) l.length rfl (by rw [ncs_len]; omega) (hs.alloc (Nat.le_refl _) (.cells #[] 57)) (ncs_one l) (by unfold maxLen; omega) (by omega) (by simp) ?_
         intro A3 c3 w3 hr3 hb3 hg3 hat3
         rw [Nat.zero_add, List.nil_append] at hr3
         simp only [Nat.zero_add])
      | fail)
    go_ret
    exact ⟨A3, c3, rfl, hr3, ((Below.refl _ _).alloc (Nat.le_refl _) _).trans hb3⟩

set_option maxRecDepth 100000 in
set_option maxHeartbeats 3200000 in
theorem kids_any (A : Option Addr) (n c : Nat) (l : List Nd) (a : Nat) (w : World) (hn : l.length = n) (hs : Sees w w.heap.size A (ncs l)) (hc : n ≤ c) (hm : n ≤ 65536) (ha : a < l.length) (N : Nat) (he : endOf (l.drop (a + 1)) (par l[a].1) = some N) :
    Calls Try.prog 52 #[.slice A n c, .int .i64 a] w (GivesKids w (kidsOf (l.drop (a + 1)) (par l[a].1))) := by
  obtain ⟨i0, hi, hz0, hz1, hz2⟩ := info_parts info_nodes
  obtain ⟨i1, ji, jz0, jz1, jz2⟩ := info_parts info_noded
  have HN := Lib.hid hn
  have han : a < n := by omega
  have HEA := Lib.hid (end_any A n c l (a : Int) w w.heap.size hn hs hm)
  have d0 : decide (endAt l (a : Int) < 0) = false := by
    rw [endAt_nat, List.drop_eq_getElem_cons ha, endOf_cons, Nat.zero_add, he]
    show decide ((a : Int) + ((N + 1 : Nat) : Int) < 0) = false
    exact decide_eq_false (by omega)
  obtain ⟨zE, hzE⟩ : ∃ z, z = endAt l (a : Int) := ⟨_, rfl⟩
  rw [← hzE] at HEA d0
  obtain ⟨all, hall⟩ : ∃ all, all = kidsOf (l.drop (a + 1)) (par l[a].1) := ⟨_, rfl⟩
  have HL := Lib.hid (show all.length = par l[a].1 by rw [hall]; exact kids_len he)
  rw [← hall]
  obtain ⟨b, o, rfl, hb, hcell, hcr⟩ := sees_node hs a ha
  clear hcr
  obtain ⟨op, hop⟩ : ∃ op, op = l[a].1 := ⟨_, rfl⟩
  rw [← hop] at hcell hall he HL
  have HP := Lib.hid (fun wx : World => parts_any op wx)
  obtain ⟨p, hp⟩ : ∃ p, p = par op := ⟨_, rfl⟩
  have hp2 : p ≤ 2 := by rw [hp]; exact par_le op
  rw [← hp] at HP hall he HL
  have H0 := Lib.hid hall
  have HE0 := Lib.hid he
  clear hop hp hall he hn ha hzE
  unfold GivesKids
  go_enter Try.func52, Try.ntmps52
  go_wp2_with fail
  refine HEA.out.mono ?_
  rintro e w' ⟨rfl, rfl⟩
  go_wp2_with fail
  refine (HP.out _).mono ?_
  rintro e w' ⟨rfl, rfl⟩
  go_wp2_with fail
  go_loopw [5, 6, 20] (fun u f i wr => ∃ (q g N' : Nat) (ks : List (List Nd)) (vs : List Value) (AO : Option Addr) (cO : Nat), q ≤ p ∧ g ≤ n ∧ i = .int .i64 q ∧ f = .int .i64 g ∧ u = .slice AO q cO ∧ Hid (all = ks ++ kidsOf (l.drop g) (p - q) ∧ endOf (l.drop g) (p - q) = some N' ∧ ks.length = q) ∧
    wr.ownsRow w.heap.size 22 1 (.slice AO q cO) q vs ∧ Kept wr w.heap.size vs ks ∧ Below w.heap.size w wr) (fun _ _ i _ => p - (intOf i).toNat)
  case atStart => exact ⟨0, a + 1, N, [], [], _, _, by omega, by omega, rfl, by go_num, rfl, Lib.hid ⟨H0.out, HE0.out, rfl⟩, World.ownsRow_nil _ _ _ _, Kept.nil_ _ _, Below.refl _ _⟩
  case round =>
    obtain ⟨q, g, N', ks, vs, AO, cO, hq, hg, rfl, rfl, rfl, HI, hrow, HK, hbr⟩ := hrel
    by_cases hlt : q < p
    · have d2 : decide ((q : Int) < (p : Int)) = true := by simp; omega
      have e1 : p - q = (p - (q + 1)) + 1 := by omega
      have hI1 := HI.out.1
      have hI2 := HI.out.2.1
      rw [e1] at hI1 hI2
      obtain ⟨m, N2, k1, k2, k3, k4⟩ := kids_next hI1 hI2
      have hgm : g + m ≤ n := by rw [HN.out] at k2; omega
      have HEN := Lib.hid (end_any (some ⟨b, o, none⟩) n c l (g : Int) wr wr.heap.size HN.out ((hs.below hbr).more hbr.size) hm)
      rw [k1] at HEN
      obtain ⟨T, hT⟩ : ∃ T, T = g + m := ⟨_, rfl⟩
      rw [← hT] at HEN
      obtain ⟨A2, hsl, hse⟩ := cutk_fact 22 57 i1 5 Try.underlying22 ji jz1 ((hs.below hbr).more hbr.size) n g m c (g : Int) (T : Int) .i64 .i64 (by rw [ncs_len, HN.out]; omega) hgm rfl (by rw [hT]) hc
      rw [ncs_piece] at hse
      obtain ⟨kd, hkd⟩ : ∃ kd, kd = (l.drop g).take m := ⟨_, rfl⟩
      have hkdl : kd.length = m := by rw [hkd, List.length_take, List.length_drop, HN.out]; omega
      rw [← hkd] at hse k3
      have HKD := Lib.hid hkdl
      have HNX : Hid (all = (ks ++ [kd]) ++ kidsOf (l.drop T) (p - (q + 1)) ∧ endOf (l.drop T) (p - (q + 1)) = some N2 ∧ (ks ++ [kd]).length = q + 1) := Lib.hid ⟨by rw [hT]; exact k3, by rw [hT]; exact k4, by rw [List.length_append, HI.out.2.2]; rfl⟩
      have hTn : T ≤ n := by omega
      have hmn : m ≤ n := by omega
      have HCL := Lib.hid (clone_nodes A2 m (c - g) kd wr hkdl hse (by omega))
      have hbz := hbr.size
      clear k1 k2 k3 k4 e1 hT hkd hkdl hgm hI1 hI2
      go_wp2_with fail
      refine HEN.out.mono ?_
      rintro e w' ⟨rfl, rfl⟩
      go_wp2_with fail
      refine HCL.out.mono ?_
      rintro e w3 ⟨A3, c3, rfl, hr3, hb3⟩
      rw [HKD.out] at hr3 ⊢
      have hr4 := row_later hrow hb3
      have hk4 := HK.later hb3
      have hb3z := hb3.size
      have hr3' := row_lower hr3 hbz
      clear hr3 hse hsl
      go_wp2_with (first
        | (at_builtin
           refine wpList_appk _ rfl (.tmp 25) (.tmp 31) 53 rfl w.heap.size 22 i0 _ 1 24 Try.underlying53 hi hz0 hz1 hz2 rfl (by decide) (.slice AO q cO) q vs rfl (World.ownsRow.alloc hr4 (.cells #[.slice A3 m c3] 22)) (w3.heap.size + 1) (some ⟨w3.heap.size, 0, none⟩) 1 [.slice A3 m c3] 1 rfl rfl (sees_lit w3 #[.slice A3 m c3] 22 (0, 0) [.slice A3 m c3] rfl) (by simp [Value.oneCell']) (by unfold maxLen; omega) (by omega) (by simp; omega) ?_
           intro A5 c5 w5 hr5 hb5 hg5 hat5)
        | fail)
      have hrw := World.ownsRow.alloc hr4 (.cells #[.slice A3 m c3] 22)
      have hka := hk4.later ((Below.refl w3.heap.size w3).alloc (Nat.le_refl _) (.cells #[.slice A3 m c3] 22))
      have hra := World.ownsRow.alloc hr3' (.cells #[.slice A3 m c3] 22)
      have hk5 := hka.kept hrw (by decide) hg5
      have hr6 := World.ownsRow.kept hra hg5 (rows_apart hra hrw (by decide))
      have hb6 : Below w.heap.size w w5 := ((hbr.trans (hb3.mono hbz)).alloc (Nat.le_trans hbz hb3z) (.cells #[.slice A3 m c3] 22)).grown hg5 (by simp; omega) (fun k e => (hrw.lt k e).1)
      go_roundw
      case rel => exact ⟨q + 1, T, N2, ks ++ [kd], vs ++ [.slice A3 m c3], A5, c5, by omega, hTn, by go_num, rfl, rfl, HNX, hr5, hk5.snoc A3 c3 m kd HKD.out hr6, hb6⟩
      case measure => simp [intOf]; omega
    · obtain rfl : q = p := by omega
      have HA : Hid (all = ks ∧ ks.length = q) := Lib.hid ⟨by have := HI.out.1; rw [Nat.sub_self, kids_zero, List.append_nil] at this; exact this, HI.out.2.2⟩
      go_wp2_with fail
      go_ret
      rw [HA.out.1, HA.out.2]
      exact ⟨AO, cO, vs, rfl, hrow, HK, hbr⟩
end Go.Proofs.Ytfoppjgjljellaa
