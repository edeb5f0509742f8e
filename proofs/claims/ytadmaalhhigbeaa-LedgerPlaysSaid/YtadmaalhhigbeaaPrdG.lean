/- A filter's parts: mathematics; and what the document's Kids returns. -/
import Derived.Test.YtadmaalhhigbeaaPrdD
import Derived.Test.YtadmaalhhigbeaaRowK
namespace Go.Proofs.Ytadmaalhhigbeaa
set_option linter.unusedVariables false
set_option linter.unusedSimpArgs false
open Go Go.RowKit

/-- So many trees, each by itself. -/
def kidsOf : List Nd → Nat → List (List Nd)
  | _, 0 => []
  | l, p + 1 => match endOf l 1 with
    | some m => l.take m :: kidsOf (l.drop m) p
    | none => []
theorem kids_zero (l : List Nd) : kidsOf l 0 = [] := by cases l <;> rfl
theorem kids_succ (l : List Nd) (p m : Nat) (h : endOf l 1 = some m) : kidsOf l (p + 1) = l.take m :: kidsOf (l.drop m) p := by
  rw [kidsOf, h]
theorem endOf_step {l : List Nd} {p N : Nat} (h : endOf l (p + 1) = some N) : ∃ m, endOf l 1 = some m ∧ Wood (l.take m) 1 ∧ m ≤ l.length ∧ ∃ N', endOf (l.drop m) p = some N' := by
  rw [Nat.add_comm] at h
  obtain ⟨m1, e1, e2, e3, e4⟩ := endOf_split 1 p N h
  exact ⟨m1, e1, e2, endOf_le e1, _, e4⟩
theorem kids_len {l : List Nd} {p N : Nat} (h : endOf l p = some N) : (kidsOf l p).length = p := by
  induction p generalizing l N with
  | zero => rw [kids_zero]; rfl
  | succ p ih =>
    obtain ⟨m, e1, _, _, N', e4⟩ := endOf_step h
    rw [kids_succ l p m e1, List.length_cons, ih e4]
theorem kids_wood {l : List Nd} {p N : Nat} (h : endOf l p = some N) : ∀ k ∈ kidsOf l p, Wood k 1 ∧ k.length ≤ l.length := by
  induction p generalizing l N with
  | zero => rw [kids_zero]; simp
  | succ p ih =>
    obtain ⟨m, e1, e2, e3, N', e4⟩ := endOf_step h
    rw [kids_succ l p m e1]
    intro k hk
    rcases List.mem_cons.1 hk with rfl | hk
    · exact ⟨e2, by rw [List.length_take]; omega⟩
    · have := ih e4 k hk
      rw [List.length_drop] at this
      exact ⟨this.1, by omega⟩
theorem kids_stk {l : List Nd} {p : Nat} (h : Wood l p) : stk l = (kidsOf l p).map dep := by
  induction p generalizing l with
  | zero =>
    rw [kids_zero]
    have := stk_len h
    exact List.length_eq_zero_iff.1 this
  | succ p ih =>
    rw [Nat.add_comm] at h
    obtain ⟨m, e1, e2, e3, e4⟩ := wood_split h
    rw [kids_succ l p m e1, List.map_cons, ← ih e4]
    have := stk_app (b := l.drop m) e3
    rw [List.take_append_drop] at this
    rw [this, dep_wood e3]
    rfl
theorem dep_kids {x : Nd} {l : List Nd} (h : Wood (x :: l) 1) : dep (x :: l) = ((kidsOf l (par x.1)).map dep).foldl max 0 + 1 := by
  obtain ⟨j, hj, h1⟩ := wood_cons h
  obtain rfl : j = 0 := by omega
  rw [Nat.zero_add] at h1
  have e := dep_wood h
  rw [stk_cons] at e
  have hl := stk_len h1
  rw [List.take_of_length_le (by omega), kids_stk h1] at e
  injection e with e _
  exact e.symm
/-- One part more. -/
theorem kids_next {l : List Nd} {f q : Nat} {ks all : List (List Nd)} {N : Nat} (h : all = ks ++ kidsOf (l.drop f) (q + 1)) (he : endOf (l.drop f) (q + 1) = some N) :
    ∃ m N', endAt l (f : Int) = ((f + m : Nat) : Int) ∧ f + m ≤ max f l.length ∧ all = (ks ++ [(l.drop f).take m]) ++ kidsOf (l.drop (f + m)) q ∧ endOf (l.drop (f + m)) q = some N' := by
  obtain ⟨m, e1, e2, e3, N', e4⟩ := endOf_step he
  rw [List.drop_drop] at e4
  refine ⟨m, N', ?_, ?_, ?_, e4⟩
  · rw [endAt_nat, e1]; simp
  · rw [List.length_drop] at e3; omega
  · rw [h, kids_succ _ q m e1, List.drop_drop]; simp

/-- Lists of nodes, each a row of the call's own. -/
def Kept (w : World) (base : Nat) (vs : List Value) (ks : List (List Nd)) : Prop := vs.length = ks.length ∧ ∀ i (h : i < ks.length), ∃ A c, vs[i]? = some (.slice A ks[i].length c) ∧ w.ownsRow base 71 5 (.slice A ks[i].length c) ks[i].length (ncs ks[i])
theorem Kept.later {w w' : World} {base : Nat} {vs : List Value} {ks : List (List Nd)} (h : Kept w base vs ks) (hl : Below w.heap.size w w') : Kept w' base vs ks := by
  refine ⟨h.1, fun i hi => ?_⟩
  obtain ⟨A, c, h1, h2⟩ := h.2 i hi
  exact ⟨A, c, h1, row_later h2 hl⟩
theorem Kept.lower {w : World} {base base' : Nat} {vs : List Value} {ks : List (List Nd)} (h : Kept w base vs ks) (hb : base' ≤ base) : Kept w base' vs ks := by
  refine ⟨h.1, fun i hi => ?_⟩
  obtain ⟨A, c, h1, h2⟩ := h.2 i hi
  exact ⟨A, c, h1, row_lower h2 hb⟩
/-- Rows of unlike types lie in unlike blocks. -/
theorem rows_apart {w : World} {base base' : Nat} {e e' : TypeId} {size size' n n' : Nat} {v v' : Value} {xs xs' : List Value} (h : w.ownsRow base e size v n xs) (h' : w.ownsRow base' e' size' v' n' xs') (hne : e ≠ e') : v.ownBlock = none ∨ v.ownBlock ≠ v'.ownBlock := by
  rcases h.2 with ⟨rfl, _⟩ | ⟨g, cap, cur, rfl, _, hg, _⟩
  · exact .inl rfl
  · refine .inr ?_
    rcases h'.2 with ⟨rfl, _⟩ | ⟨g', cap', cur', rfl, _, hg', _⟩
    · simp [Value.ownBlock]
    · intro e1
      have : g = g' := by simpa [Value.ownBlock] using e1
      subst this
      rw [hg] at hg'
      injection hg' with hg'
      injection hg' with _ h2 _
      exact hne h2
theorem Kept.kept {w w' : World} {base base' : Nat} {vs : List Value} {ks : List (List Nd)} (h : Kept w base vs ks) {v : Value} {e : TypeId} {size n : Nat} {xs : List Value} (hr : w.ownsRow base' e size v n xs) (hne : 71 ≠ e) (hg : w.grownBy w' v.ownBlock) : Kept w' base vs ks := by
  refine ⟨h.1, fun i hi => ?_⟩
  obtain ⟨A, c, h1, h2⟩ := h.2 i hi
  exact ⟨A, c, h1, World.ownsRow.kept h2 hg (rows_apart h2 hr hne)⟩
theorem Kept.nil_ (w : World) (base : Nat) : Kept w base [] [] := ⟨rfl, fun i h => absurd h (by simp)⟩
theorem Kept.snoc {w : World} {base : Nat} {vs : List Value} {ks : List (List Nd)} (h : Kept w base vs ks) (A : Option Addr) (c n : Nat) (k : List Nd) (hn : k.length = n) (hs : w.ownsRow base 71 5 (.slice A n c) n (ncs k)) : Kept w base (vs ++ [.slice A n c]) (ks ++ [k]) := by
  subst hn
  refine ⟨by simp [h.1], fun i hi => ?_⟩
  rw [List.length_append, List.length_singleton] at hi
  by_cases e : i < ks.length
  · obtain ⟨A', c', h1, h2⟩ := h.2 i e
    refine ⟨A', c', by rw [List.getElem?_append_left (by rw [h.1]; exact e)]; simpa [List.getElem_append_left e] using h1, by simpa [List.getElem_append_left e] using h2⟩
  · obtain rfl : i = ks.length := by omega
    refine ⟨A, c, ?_, by simpa using hs⟩
    have e1 : (ks ++ [k])[ks.length]'(by simp) = k := by simp
    have e2 := List.getElem?_concat_length (l := vs) (a := Value.slice A k.length c)
    rw [h.1] at e2
    rw [e1]
    exact e2
theorem Kept.one {w : World} {base : Nat} {vs : List Value} {ks : List (List Nd)} (h : Kept w base vs ks) : ∀ u ∈ vs, u.oneCell' = true := by
  intro u hu
  obtain ⟨i, hi, rfl⟩ := List.mem_iff_getElem.1 hu
  obtain ⟨A, c, h1, _⟩ := h.2 i (by rw [← h.1]; exact hi)
  rw [List.getElem?_eq_getElem hi] at h1
  injection h1 with h1
  rw [h1]
  rfl
/-- What a call gives that tells lists of nodes. -/
def GivesKids (w : World) (ks : List (List Nd)) : Ending → World → Prop := fun e w' => ∃ A c vs, e = .returned (.slice A ks.length c) ∧ w'.ownsRow w.heap.size 23 1 (.slice A ks.length c) ks.length vs ∧ Kept w' w.heap.size vs ks ∧ Below w.heap.size w w'
theorem info_nodes : (Try.prog.info? 23).map (fun i => (i.zero, i.size, i.bytes)) = some (some (.slice none 0 0), 1, 24) := by kernel_rfl
theorem info_noded : (Try.prog.info? 71).map (fun i => (i.zero, i.size, i.bytes)) = some (some (.agg #[.int .i64 0, .int .i64 0, .int .i64 0, .int .i64 0, .string ⟨#[]⟩]), 5, 48) := by kernel_rfl
theorem ncs_piece (l : List Nd) (f m : Nat) : ((ncs l).drop (f * 5)).take (m * 5) = ncs ((l.drop f).take m) := by
  rw [Nat.mul_comm f 5, ncs_drop, Nat.mul_comm m 5, ncs_take]

set_option maxRecDepth 100000 in
set_option maxHeartbeats 3200000 in
theorem rkids_any (A : Option Addr) (n c : Nat) (l : List Nd) (a : Nat) (w : World) (hn : l.length = n) (hs : Sees w w.heap.size A (ncs l)) (hc : n ≤ c) (hm : n ≤ 65536) (ha : a < l.length) (N : Nat) (he : endOf (l.drop (a + 1)) (par l[a].1) = some N) :
    Calls Try.prog 94 #[.slice A n c, .int .i64 a] w (GivesKids w (kidsOf (l.drop (a + 1)) (par l[a].1))) := by
  obtain ⟨i0, hi, hz0, hz1, hz2⟩ := info_parts info_nodes
  obtain ⟨i1, ji, jz0, jz1, jz2⟩ := info_parts info_noded
  have HN := Lib.hid hn
  have d0 : decide ((a : Int) < 0) = false := by simp
  have d1 : decide ((n : Int) ≤ (a : Int)) = false := by simp; omega
  have d1n : decide (n ≤ a) = false := by simp; omega
  have han : a < n := by omega
  obtain ⟨all, hall⟩ : ∃ all, all = kidsOf (l.drop (a + 1)) (par l[a].1) := ⟨_, rfl⟩
  have HL := Lib.hid (show all.length = par l[a].1 by rw [hall]; exact kids_len he)
  rw [← hall]
  obtain ⟨b, o, rfl, hb, hcell, hcr⟩ := sees_node hs a ha
  clear hcr
  obtain ⟨op, hop⟩ : ∃ op, op = l[a].1 := ⟨_, rfl⟩
  rw [← hop] at hcell hall he HL
  have HP := Lib.hid (fun wx : World => rparts_any op wx)
  obtain ⟨p, hp⟩ : ∃ p, p = par op := ⟨_, rfl⟩
  have hp2 : p ≤ 2 := by rw [hp]; exact par_le op
  rw [← hp] at HP hall he HL
  have H0 := Lib.hid hall
  have HE0 := Lib.hid he
  clear hop hp hall he hn ha
  unfold GivesKids
  go_enter Try.func94, Try.ntmps94
  go_wp2_with fail
  have R0 := row_lit w w.heap.size 23 1 0 #[] (Nat.le_refl _) (by simp [maxLen]) rfl
  have hb0 := (Below.refl w.heap.size w).alloc (Nat.le_refl _) (.cells #[] 23)
  go_loopw [5, 6, 7] (fun u f i wr => ∃ (q g N' : Nat) (ks : List (List Nd)) (vs : List Value) (AO : Option Addr) (cO : Nat), q ≤ p ∧ g ≤ n ∧ i = .int .i64 q ∧ f = .int .i64 g ∧ u = .slice AO q cO ∧ Hid (all = ks ++ kidsOf (l.drop g) (p - q) ∧ endOf (l.drop g) (p - q) = some N' ∧ ks.length = q) ∧
    wr.ownsRow w.heap.size 23 1 (.slice AO q cO) q vs ∧ Kept wr w.heap.size vs ks ∧ Below w.heap.size w wr) (fun _ _ i _ => p - (intOf i).toNat)
  case atStart => exact ⟨0, a + 1, N, [], [], _, _, by omega, by omega, rfl, by go_num, rfl, Lib.hid ⟨H0.out, HE0.out, rfl⟩, R0, Kept.nil_ _ _, hb0⟩
  case round =>
    obtain ⟨q, g, N', ks, vs, AO, cO, hq, hg, rfl, rfl, rfl, HI, hrow, HK, hbr⟩ := hrel
    clear R0 hb0
    have hcell' := (hbr.cell (p := ⟨b, o + a * 5, none⟩) hb).trans hcell
    by_cases hlt : q < p
    · have d2 : decide ((q : Int) < (p : Int)) = true := by simp; omega
      have e1 : p - q = (p - (q + 1)) + 1 := by omega
      have hI1 := HI.out.1
      have hI2 := HI.out.2.1
      rw [e1] at hI1 hI2
      obtain ⟨m, N2, k1, k2, k3, k4⟩ := kids_next hI1 hI2
      have hgm : g + m ≤ n := by rw [HN.out] at k2; omega
      have HEN := Lib.hid (rend_any (some ⟨b, o, none⟩) n c l (g : Int) wr wr.heap.size HN.out ((hs.below hbr).more hbr.size) hm)
      rw [k1] at HEN
      obtain ⟨T, hT⟩ : ∃ T, T = g + m := ⟨_, rfl⟩
      rw [← hT] at HEN
      obtain ⟨A2, hsl, hse⟩ := cutk_fact 23 71 i1 5 Try.underlying23 ji jz1 ((hs.below hbr).more hbr.size) n g m c (g : Int) (T : Int) .i64 .i64 (by rw [ncs_len, HN.out]; omega) hgm rfl (by rw [hT]) hc
      rw [ncs_piece] at hse
      obtain ⟨kd, hkd⟩ : ∃ kd, kd = (l.drop g).take m := ⟨_, rfl⟩
      have hkdl : kd.length = m := by rw [hkd, List.length_take, List.length_drop, HN.out]; omega
      rw [← hkd] at hse k3
      have HKD := Lib.hid hkdl
      have HNX : Hid (all = (ks ++ [kd]) ++ kidsOf (l.drop T) (p - (q + 1)) ∧ endOf (l.drop T) (p - (q + 1)) = some N2 ∧ (ks ++ [kd]).length = q + 1) := Lib.hid ⟨by rw [hT]; exact k3, by rw [hT]; exact k4, by rw [List.length_append, HI.out.2.2]; rfl⟩
      have hTn : T ≤ n := by omega
      have hmn : m ≤ n := by omega
      have R1 := row_lit wr w.heap.size 71 5 0 #[] hbr.size (by simp [maxLen]) rfl
      have hbz := hbr.size
      clear k1 k2 k3 k4 e1 hT hkd hkdl hgm hI1 hI2
      go_wp2_with fail
      refine (HP.out _).mono ?_
      rintro e w' ⟨rfl, rfl⟩
      go_wp2_with fail
      refine HEN.out.mono ?_
      rintro e w' ⟨rfl, rfl⟩
      go_wp2_with (first
        | (at_builtin
           refine wpList_appk _ rfl (.tmp 34) (.tmp 38) 23 rfl w.heap.size 71 i1 _ 5 48 Try.underlying23 ji jz0 jz1 jz2 rfl (by decide) (.slice (some ⟨wr.heap.size, 0, none⟩) 0 0) 0 [] rfl R1 wr.heap.size A2 (c - g) (ncs kd) m rfl (by rw [ncs_len, HKD.out]; omega) (hse.alloc (Nat.le_refl _) (.cells #[] 71)) (ncs_one kd) (by unfold maxLen; omega) (by omega) (by simp; omega) ?_
           intro A3 c3 w3 hr3 hb3 hg3 hat3
           rw [Nat.zero_add, List.nil_append] at hr3
           simp only [Nat.zero_add]
           have hlw : Le wr w3 := ((Below.refl wr.heap.size wr).alloc (Nat.le_refl _) (.cells #[] 71)).grown hg3 (by simp) (fun k e => by cases e; exact Nat.le_refl _)
           have hr4 := row_later hrow hlw
           have hk4 := HK.later hlw
           have hs3 := row_sees hr3)
        | (at_builtin
           refine wpList_appk _ rfl (.tmp 33) (.tmp 40) 134 rfl w.heap.size 23 i0 _ 1 24 Try.underlying134 hi hz0 hz1 hz2 rfl (by decide) (.slice AO q cO) q vs rfl (World.ownsRow.alloc hr4 _) (w3.heap.size + 1) (some ⟨w3.heap.size, 0, none⟩) 1 [.slice A3 m c3] 1 rfl rfl (sees_lit w3 #[.slice A3 m c3] 23 (0, 0) [.slice A3 m c3] rfl) (by simp [Value.oneCell']) (by unfold maxLen; omega) (by omega) (by have := hlw.size; simp; omega) ?_
           intro A5 c5 w5 hr5 hb5 hg5 hat5)
        | fail)
      have hrw := World.ownsRow.alloc hr4 (.cells #[.slice A3 m c3] 23)
      have hka := hk4.later ((Below.refl w3.heap.size w3).alloc (Nat.le_refl _) (.cells #[.slice A3 m c3] 23))
      have hra := World.ownsRow.alloc hr3 (.cells #[.slice A3 m c3] 23)
      have hk5 := hka.kept hrw (by decide) hg5
      have hr6 := World.ownsRow.kept hra hg5 (rows_apart hra hrw (by decide))
      have hb6 : Below w.heap.size w w5 := ((hbr.trans (hlw.mono hbz)).alloc (Nat.le_trans hbz hlw.size) (.cells #[.slice A3 m c3] 23)).grown hg5 (by have := hlw.size; simp; omega) (fun k e => (hrw.lt k e).1)
      go_roundw
      case rel => exact ⟨q + 1, T, N2, ks ++ [kd], vs ++ [.slice A3 m c3], A5, c5, by omega, hTn, by go_num, rfl, rfl, HNX, hr5, hk5.snoc A3 c3 m kd HKD.out hr6, hb6⟩
      case measure => simp [intOf]; omega
    · obtain rfl : q = p := by omega
      have HA : Hid (all = ks ∧ ks.length = q) := Lib.hid ⟨by have := HI.out.1; rw [Nat.sub_self, kids_zero, List.append_nil] at this; exact this, HI.out.2.2⟩
      go_wp2_with fail
      refine (HP.out _).mono ?_
      rintro e w' ⟨rfl, rfl⟩
      go_wp2_with fail
      go_ret
      rw [HA.out.1, HA.out.2]
      exact ⟨AO, cO, vs, rfl, hrow, HK, hbr⟩
end Go.Proofs.Ytadmaalhhigbeaa
