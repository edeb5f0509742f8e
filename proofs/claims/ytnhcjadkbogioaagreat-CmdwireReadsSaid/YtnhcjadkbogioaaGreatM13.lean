/- A filter's parts: mathematics; and what the document's Kids returns. -/
import Derived.Test.YtnhcjadkbogioaaGreatM11
import Derived.Test.YtnhcjadkbogioaaGreatM12
import Derived.Test.YtnhcjadkbogioaaGreatM10
import Derived.Test.YtnhcjadkbogioaaGreatM8
import Derived.Test.YtnhcjadkbogioaaGreatM3
set_option maxRecDepth 100000
set_option linter.unusedVariables false
set_option linter.unusedSimpArgs false
set_option maxHeartbeats 3200000
namespace Go.Proofs.YtnhcjadkbogioaaGreat
open Go Go.RowKit
def kidsOf : List Nd → Nat → List (List Nd)
  | _, 0 => []
  | l, p + 1 => match endOf l 1 with
    | some m => l.take m :: kidsOf (l.drop m) p
    | none => []
theorem kids_zero (l : List Nd) : kidsOf l 0 = [] := by cases l <;> rfl
theorem kids_succ (l : List Nd) (p m : Nat) (h : endOf l 1 = some m) : kidsOf l (p + 1) = l.take m :: kidsOf (l.drop m) p := by
  rw [kidsOf, h]
theorem endOf_step {l : List Nd} {p N : Nat} (h : endOf l (p + 1) = some N) : ∃ m, endOf l 1 = some m ∧ Wood (l.take m) 1 ∧ m ≤ l.length ∧ ∃ N', endOf (l.drop m) p = some N' := by
  rw [Nat.add_comm] at h
  obtain ⟨m1, e1, e2, e3, e4⟩ := endOf_split 1 p N h
  exact ⟨m1, e1, e2, endOf_le e1, _, e4⟩
theorem kids_len {l : List Nd} {p N : Nat} (h : endOf l p = some N) : (kidsOf l p).length = p := by
  induction p generalizing l N with
  | zero => rw [kids_zero]; rfl
  | succ p ih =>
    obtain ⟨m, e1, _, _, N', e4⟩ := endOf_step h
    rw [kids_succ l p m e1, List.length_cons, ih e4]
theorem kids_wood {l : List Nd} {p N : Nat} (h : endOf l p = some N) : ∀ k ∈ kidsOf l p, Wood k 1 ∧ k.length ≤ l.length := by
  induction p generalizing l N with
  | zero => rw [kids_zero]; simp
  | succ p ih =>
    obtain ⟨m, e1, e2, e3, N', e4⟩ := endOf_step h
    rw [kids_succ l p m e1]
    intro k hk
    rcases List.mem_cons.1 hk with rfl | hk
    · exact ⟨e2, by rw [List.length_take]; omega⟩
    · have := ih e4 k hk
      rw [List.length_drop] at this
      exact ⟨this.1, by omega⟩
theorem kids_stk {l : List Nd} {p : Nat} (h : Wood l p) : stk l = (kidsOf l p).map dep := by
  induction p generalizing l with
  | zero =>
    rw [kids_zero]
    have := stk_len h
    exact List.length_eq_zero_iff.1 this
  | succ p ih =>
    rw [Nat.add_comm] at h
    obtain ⟨m, e1, e2, e3, e4⟩ := wood_split h
    rw [kids_succ l p m e1, List.map_cons, ← ih e4]
    have := stk_app (b := l.drop m) e3
    rw [List.take_append_drop] at this
    rw [this, dep_wood e3]
    rfl
theorem dep_kids {x : Nd} {l : List Nd} (h : Wood (x :: l) 1) : dep (x :: l) = ((kidsOf l (par x.1)).map dep).foldl max 0 + 1 := by
  obtain ⟨j, hj, h1⟩ := wood_cons h
  obtain rfl : j = 0 := by omega
  rw [Nat.zero_add] at h1
  have e := dep_wood h
  rw [stk_cons] at e
  have hl := stk_len h1
  rw [List.take_of_length_le (by omega), kids_stk h1] at e
  injection e with e _
  exact e.symm
theorem kids_next {l : List Nd} {f q : Nat} {ks all : List (List Nd)} {N : Nat} (h : all = ks ++ kidsOf (l.drop f) (q + 1)) (he : endOf (l.drop f) (q + 1) = some N) :
    ∃ m N', endAt l (f : Int) = ((f + m : Nat) : Int) ∧ f + m ≤ max f l.length ∧ all = (ks ++ [(l.drop f).take m]) ++ kidsOf (l.drop (f + m)) q ∧ endOf (l.drop (f + m)) q = some N' := by
  obtain ⟨m, e1, e2, e3, N', e4⟩ := endOf_step he
  rw [List.drop_drop] at e4
  refine ⟨m, N', ?_, ?_, ?_, e4⟩
  · rw [endAt_nat, e1]; simp
  · rw [List.length_drop] at e3; omega
  · rw [h, kids_succ _ q m e1, List.drop_drop]; simp
def Kept (w : World) (base : Nat) (vs : List Value) (ks : List (List Nd)) : Prop := vs.length = ks.length ∧ ∀ i (h : i < ks.length), ∃ A c, vs[i]? = some (.slice A ks[i].length c) ∧ w.ownsRow base 73 5 (.slice A ks[i].length c) ks[i].length (ncs ks[i])
theorem Kept.later {w w' : World} {base : Nat} {vs : List Value} {ks : List (List Nd)} (h : Kept w base vs ks) (hl : Below w.heap.size w w') : Kept w' base vs ks := by
  refine ⟨h.1, fun i hi => ?_⟩
  obtain ⟨A, c, h1, h2⟩ := h.2 i hi
  exact ⟨A, c, h1, row_later h2 hl⟩
theorem Kept.lower {w : World} {base base' : Nat} {vs : List Value} {ks : List (List Nd)} (h : Kept w base vs ks) (hb : base' ≤ base) : Kept w base' vs ks := by
  refine ⟨h.1, fun i hi => ?_⟩
  obtain ⟨A, c, h1, h2⟩ := h.2 i hi
  exact ⟨A, c, h1, row_lower h2 hb⟩
theorem rows_apart {w : World} {base base' : Nat} {e e' : TypeId} {size size' n n' : Nat} {v v' : Value} {xs xs' : List Value} (h : w.ownsRow base e size v n xs) (h' : w.ownsRow base' e' size' v' n' xs') (hne : e ≠ e') : v.ownBlock = none ∨ v.ownBlock ≠ v'.ownBlock := by
  rcases h.2 with ⟨rfl, _⟩ | ⟨g, cap, cur, rfl, _, hg, _⟩
  · exact .inl rfl
  · refine .inr ?_
    rcases h'.2 with ⟨rfl, _⟩ | ⟨g', cap', cur', rfl, _, hg', _⟩
    · simp [Value.ownBlock]
    · intro e1
      have : g = g' := by simpa [Value.ownBlock] using e1
      subst this
      rw [hg] at hg'
      injection hg' with hg'
      injection hg' with _ h2 _
      exact hne h2
theorem Kept.kept {w w' : World} {base base' : Nat} {vs : List Value} {ks : List (List Nd)} (h : Kept w base vs ks) {v : Value} {e : TypeId} {size n : Nat} {xs : List Value} (hr : w.ownsRow base' e size v n xs) (hne : 73 ≠ e) (hg : w.grownBy w' v.ownBlock) : Kept w' base vs ks := by
  refine ⟨h.1, fun i hi => ?_⟩
  obtain ⟨A, c, h1, h2⟩ := h.2 i hi
  exact ⟨A, c, h1, World.ownsRow.kept h2 hg (rows_apart h2 hr hne)⟩
theorem Kept.nil_ (w : World) (base : Nat) : Kept w base [] [] := ⟨rfl, fun i h => absurd h (by simp)⟩
theorem Kept.snoc {w : World} {base : Nat} {vs : List Value} {ks : List (List Nd)} (h : Kept w base vs ks) (A : Option Addr) (c n : Nat) (k : List Nd) (hn : k.length = n) (hs : w.ownsRow base 73 5 (.slice A n c) n (ncs k)) : Kept w base (vs ++ [.slice A n c]) (ks ++ [k]) := by
  subst hn
  refine ⟨by simp [h.1], fun i hi => ?_⟩
  rw [List.length_append, List.length_singleton] at hi
  by_cases e : i < ks.length
  · obtain ⟨A', c', h1, h2⟩ := h.2 i e
    refine ⟨A', c', by rw [List.getElem?_append_left (by rw [h.1]; exact e)]; simpa [List.getElem_append_left e] using h1, by simpa [List.getElem_append_left e] using h2⟩
  · obtain rfl : i = ks.length := by omega
    refine ⟨A, c, ?_, by simpa using hs⟩
    have e1 : (ks ++ [k])[ks.length]'(by simp) = k := by simp
    have e2 := List.getElem?_concat_length (l := vs) (a := Value.slice A k.length c)
    rw [h.1] at e2
    rw [e1]
    exact e2
theorem Kept.one {w : World} {base : Nat} {vs : List Value} {ks : List (List Nd)} (h : Kept w base vs ks) : ∀ u ∈ vs, u.oneCell' = true := by
  intro u hu
  obtain ⟨i, hi, rfl⟩ := List.mem_iff_getElem.1 hu
  obtain ⟨A, c, h1, _⟩ := h.2 i (by rw [← h.1]; exact hi)
  rw [List.getElem?_eq_getElem hi] at h1
  injection h1 with h1
  rw [h1]
  rfl
def GivesKids (w : World) (ks : List (List Nd)) : Ending → World → Prop := fun e w' => ∃ A c vs, e = .returned (.slice A ks.length c) ∧ w'.ownsRow w.heap.size 39 1 (.slice A ks.length c) ks.length vs ∧ Kept w' w.heap.size vs ks ∧ Below w.heap.size w w'
theorem info_nodes : (Tryz.prog.info? 39).map (fun i => (i.zero, i.size, i.bytes)) = some (some (.slice none 0 0), 1, 24) := by kernel_rfl
theorem info_noded : (Tryz.prog.info? 73).map (fun i => (i.zero, i.size, i.bytes)) = some (some (.agg #[.int .i64 0, .int .i64 0, .int .i64 0, .int .i64 0, .string ⟨#[]⟩]), 5, 48) := by kernel_rfl
theorem ncs_piece (l : List Nd) (f m : Nat) : ((ncs l).drop (f * 5)).take (m * 5) = ncs ((l.drop f).take m) := by
  rw [Nat.mul_comm f 5, ncs_drop, Nat.mul_comm m 5, ncs_take]
theorem rkids_any (A : Option Addr) (n c : Nat) (l : List Nd) (a : Nat) (w : World) (hn : l.length = n) (hs : Sees w w.heap.size A (ncs l)) (hc : n ≤ c) (hm : n ≤ 65536) (ha : a < l.length) (N : Nat) (he : endOf (l.drop (a + 1)) (par l[a].1) = some N) :
    Calls Tryz.prog 98 #[.slice A n c, .int .i64 a] w (GivesKids w (kidsOf (l.drop (a + 1)) (par l[a].1))) := by
  obtain ⟨i0, hi, hz0, hz1, hz2⟩ := info_parts info_nodes
  obtain ⟨i1, ji, jz0, jz1, jz2⟩ := info_parts info_noded
  have HN := hid hn
  have d0 : decide ((a : Int) < 0) = false := by simp
  have d1 : decide ((n : Int) ≤ (a : Int)) = false := by simp; omega
  have d1n : decide (n ≤ a) = false := by simp; omega
  have han : a < n := by omega
  obtain ⟨all, hall⟩ : ∃ all, all = kidsOf (l.drop (a + 1)) (par l[a].1) := ⟨_, rfl⟩
  have HL := hid (show all.length = par l[a].1 by rw [hall]; exact kids_len he)
  rw [← hall]
  obtain ⟨b, o, rfl, hb, hcell, hcr⟩ := sees_node hs a ha
  clear hcr
  obtain ⟨op, hop⟩ : ∃ op, op = l[a].1 := ⟨_, rfl⟩
  rw [← hop] at hcell hall he HL
  have HP := hid (fun wx : World => rparts_any op wx)
  obtain ⟨p, hp⟩ : ∃ p, p = par op := ⟨_, rfl⟩
  have hp2 : p ≤ 2 := by rw [hp]; exact par_le op
  rw [← hp] at HP hall he HL
  have H0 := hid hall
  have HE0 := hid he
  clear hop hp hall he hn ha
  unfold GivesKids
  go_enter Tryz.func98, Tryz.ntmps98
  go_wp2_with fail
  have R0 := row_lit w w.heap.size 39 1 0 #[] (Nat.le_refl _) (by simp [maxLen]) rfl
  have hb0 := (Below.refl w.heap.size w).alloc (Nat.le_refl _) (.cells #[] 39)
  go_loopw [5, 6, 7] (fun u f i wr => ∃ (q g N' : Nat) (ks : List (List Nd)) (vs : List Value) (AO : Option Addr) (cO : Nat), q ≤ p ∧ g ≤ n ∧ i = .int .i64 q ∧ f = .int .i64 g ∧ u = .slice AO q cO ∧ Hid (all = ks ++ kidsOf (l.drop g) (p - q) ∧ endOf (l.drop g) (p - q) = some N' ∧ ks.length = q) ∧
    wr.ownsRow w.heap.size 39 1 (.slice AO q cO) q vs ∧ Kept wr w.heap.size vs ks ∧ Below w.heap.size w wr) (fun _ _ i _ => p - (intOf i).toNat)
  case atStart => exact ⟨0, a + 1, N, [], [], _, _, by omega, by omega, rfl, by go_num, rfl, hid ⟨H0.out, HE0.out, rfl⟩, R0, Kept.nil_ _ _, hb0⟩
  case round =>
    obtain ⟨q, g, N', ks, vs, AO, cO, hq, hg, rfl, rfl, rfl, HI, hrow, HK, hbr⟩ := hrel
    clear R0 hb0
    have hcell' := (hbr.cell (p := ⟨b, o + a * 5, none⟩) hb).trans hcell
    by_cases hlt : q < p
    · have d2 : decide ((q : Int) < (p : Int)) = true := by simp; omega
      have e1 : p - q = (p - (q + 1)) + 1 := by omega
      have hI1 := HI.out.1
      have hI2 := HI.out.2.1
      rw [e1] at hI1 hI2
      obtain ⟨m, N2, k1, k2, k3, k4⟩ := kids_next hI1 hI2
      have hgm : g + m ≤ n := by rw [HN.out] at k2; omega
      have HEN := hid (rend_any (some ⟨b, o, none⟩) n c l (g : Int) wr wr.heap.size HN.out ((hs.below hbr).more hbr.size) hm)
      rw [k1] at HEN
      obtain ⟨T, hT⟩ : ∃ T, T = g + m := ⟨_, rfl⟩
      rw [← hT] at HEN
      obtain ⟨A2, hsl, hse⟩ := cutk_fact 39 73 i1 5 Tryz.underlying39 ji jz1 ((hs.below hbr).more hbr.size) n g m c (g : Int) (T : Int) .i64 .i64 (by rw [ncs_len, HN.out]; omega) hgm rfl (by rw [hT]) hc
      rw [ncs_piece] at hse
      obtain ⟨kd, hkd⟩ : ∃ kd, kd = (l.drop g).take m := ⟨_, rfl⟩
      have hkdl : kd.length = m := by rw [hkd, List.length_take, List.length_drop, HN.out]; omega
      rw [← hkd] at hse k3
      have HKD := hid hkdl
      have HNX : Hid (all = (ks ++ [kd]) ++ kidsOf (l.drop T) (p - (q + 1)) ∧ endOf (l.drop T) (p - (q + 1)) = some N2 ∧ (ks ++ [kd]).length = q + 1) := hid ⟨by rw [hT]; exact k3, by rw [hT]; exact k4, by rw [List.length_append, HI.out.2.2]; rfl⟩
      have hTn : T ≤ n := by omega
      have hmn : m ≤ n := by omega
      have R1 := row_lit wr w.heap.size 73 5 0 #[] hbr.size (by simp [maxLen]) rfl
      have hbz := hbr.size
      clear k1 k2 k3 k4 e1 hT hkd hkdl hgm hI1 hI2
      go_wp2_with fail
      refine (HP.out _).mono ?_
      rintro e w' ⟨rfl, rfl⟩
      go_wp2_with fail
      refine HEN.out.mono ?_
      rintro e w' ⟨rfl, rfl⟩
      go_wp2_with (first
        | (at_builtin
           refine wpList_appk _ rfl (.tmp 34) (.tmp 38) 39 rfl w.heap.size 73 i1 _ 5 48 Tryz.underlying39 ji jz0 jz1 jz2 rfl (by decide) (.slice (some ⟨wr.heap.size, 0, none⟩) 0 0) 0 [] rfl R1 wr.heap.size A2 (c - g) (ncs kd) m rfl (by rw [ncs_len, HKD.out]; omega) (hse.alloc (Nat.le_refl _) (.cells #[] 73)) (ncs_one kd) (by unfold maxLen; omega) (by omega) (by simp; omega) ?_
           intro A3 c3 w3 hr3 hb3 hg3 hat3
           rw [Nat.zero_add, List.nil_append] at hr3
           simp only [Nat.zero_add]
           have hlw : Le wr w3 := ((Below.refl wr.heap.size wr).alloc (Nat.le_refl _) (.cells #[] 73)).grown hg3 (by simp) (fun k e => by cases e; exact Nat.le_refl _)
           have hr4 := row_later hrow hlw
           have hk4 := HK.later hlw
           have hs3 := row_sees hr3)
        | (at_builtin
           refine wpList_appk _ rfl (.tmp 33) (.tmp 40) 117 rfl w.heap.size 39 i0 _ 1 24 Tryz.underlying117 hi hz0 hz1 hz2 rfl (by decide) (.slice AO q cO) q vs rfl (World.ownsRow.alloc hr4 _) (w3.heap.size + 1) (some ⟨w3.heap.size, 0, none⟩) 1 [.slice A3 m c3] 1 rfl rfl (sees_lit w3 #[.slice A3 m c3] 39 (0, 0) [.slice A3 m c3] rfl) (by simp [Value.oneCell']) (by unfold maxLen; omega) (by omega) (by have := hlw.size; simp; omega) ?_
           intro A5 c5 w5 hr5 hb5 hg5 hat5)
        | fail)
      have hrw := World.ownsRow.alloc hr4 (.cells #[.slice A3 m c3] 39)
      have hka := hk4.later ((Below.refl w3.heap.size w3).alloc (Nat.le_refl _) (.cells #[.slice A3 m c3] 39))
      have hra := World.ownsRow.alloc hr3 (.cells #[.slice A3 m c3] 39)
      have hk5 := hka.kept hrw (by decide) hg5
      have hr6 := World.ownsRow.kept hra hg5 (rows_apart hra hrw (by decide))
      have hb6 : Below w.heap.size w w5 := ((hbr.trans (hlw.mono hbz)).alloc (Nat.le_trans hbz hlw.size) (.cells #[.slice A3 m c3] 39)).grown hg5 (by have := hlw.size; simp; omega) (fun k e => (hrw.lt k e).1)
      go_roundw
      case rel => exact ⟨q + 1, T, N2, ks ++ [kd], vs ++ [.slice A3 m c3], A5, c5, by omega, hTn, by go_num, rfl, rfl, HNX, hr5, hk5.snoc A3 c3 m kd HKD.out hr6, hb6⟩
      case measure => simp [intOf]; omega
    · obtain rfl : q = p := by omega
      have HA : Hid (all = ks ∧ ks.length = q) := hid ⟨by have := HI.out.1; rw [Nat.sub_self, kids_zero, List.append_nil] at this; exact this, HI.out.2.2⟩
      go_wp2_with fail
      refine (HP.out _).mono ?_
      rintro e w' ⟨rfl, rfl⟩
      go_wp2_with fail
      go_ret
      rw [HA.out.1, HA.out.2]
      exact ⟨AO, cO, vs, rfl, hrow, HK, hbr⟩
theorem row_cap {w : World} {base : Nat} {e : TypeId} {size n : Nat} {A : Option Addr} {c : Nat} {xs : List Value} (h : w.ownsRow base e size (.slice A n c) n xs) : n ≤ c := by
  rcases h.2 with ⟨hv, h0⟩ | ⟨g, cap, cur, hv, _, _, hnc, _⟩
  · injection hv with h1 h2 h3; omega
  · injection hv with h1 h2 h3; subst h3; exact hnc
theorem rdepth_step (A : Option Addr) (n c : Nat) (l : List Nd) (w : World) (hn : l.length = n) (hs : Sees w w.heap.size A (ncs l)) (hc : n ≤ c) (hm : n ≤ 65536)
    (IH : ∀ (k : List Nd) (A : Option Addr) (c : Nat) (wx : World), k.length < n → Sees wx wx.heap.size A (ncs k) → k.length ≤ c → Calls Tryz.prog 88 #[.slice A k.length c] wx fun e w' => e = .returned (.int .i64 (dep k)) ∧ Below wx.heap.size wx w') :
    Calls Tryz.prog 88 #[.slice A n c] w fun e w' => e = .returned (.int .i64 (dep l)) ∧ Below w.heap.size w w' := by
  cases l with
  | nil =>
    obtain rfl : n = 0 := by rw [← hn]; rfl
    have HR : Hid (dep [] = 0) := hid (dep_not (by unfold Wood; intro h; cases h))
    clear IH hn hs
    go_enter Tryz.func88, Tryz.ntmps88
    go_wp2_with fail
    go_ret
    exact ⟨by rw [HR.out]; rfl, Below.refl _ _⟩
  | cons x l' =>
    have hpos : 0 < n := by rw [← hn]; simp
    have b0 : ((n : Int) == 0) = false := by simp; omega
    by_cases hw : Wood (x :: l') 1
    · have HE := hid (rend_any A n c (x :: l') 0 w w.heap.size hn hs hm)
      rw [show endAt (x :: l') 0 = (n : Int) by rw [(wood_end _).2 hw, hn]] at HE
      obtain ⟨j0, hj, hw0⟩ := wood_cons hw
      have hw1 : Wood l' (par x.1) := by
        have h1 := hw0
        rwa [show j0 = 0 by omega, Nat.zero_add] at h1
      clear hj hw0 j0
      have hHK := rkids_any A n c (x :: l') 0 w hn hs hc hm (by simp) l'.length hw1
      have hkw := fun k hk => kids_wood (l := l') (p := par x.1) (N := l'.length) hw1 k hk
      have hR := dep_kids hw
      obtain ⟨ks, hks⟩ : ∃ ks, ks = kidsOf l' (par x.1) := ⟨_, rfl⟩
      have HK := hid (show Calls Tryz.prog 98 #[.slice A n c, .int .i64 0] w (GivesKids w ks) from by rw [hks]; exact hHK)
      rw [← hks] at hR hkw
      have HKL : Hid (∀ k ∈ ks, k.length < n) := hid (fun k hk => by have := (hkw k hk).2; rw [← hn, List.length_cons]; omega)
      have HR := hid hR
      have HIH := hid IH
      have hkn : ks.length ≤ 2 := by
        rw [hks, kids_len hw1]
        exact par_le x.1
      have hrl : dep (x :: l') ≤ n := by rw [← hn]; exact dep_le _
      obtain ⟨R, hR0⟩ : ∃ R, R = dep (x :: l') := ⟨_, rfl⟩
      rw [← hR0] at HR hrl ⊢
      obtain ⟨m, hm0⟩ : ∃ m, m = ks.length := ⟨_, rfl⟩
      have HM := hid hm0
      rw [← hm0] at hkn
      clear hR hR0 hHK hkw hks hw1 hw IH hn hs hm0
      unfold GivesKids at HK
      rw [← HM.out] at HK
      go_enter Tryz.func88, Tryz.ntmps88
      go_wp2_with fail
      refine HE.out.mono ?_
      rintro e w1 ⟨rfl, rfl⟩
      go_wp2_with fail
      refine HK.out.mono ?_
      rintro e w1 ⟨AK, cK, vs, rfl, hrow, hkept, hb⟩
      have hse := row_sees hrow
      clear HE HK
      go_wp2_with fail
      go_loopw [4, 5] (fun d i wr => ∃ y : Nat, y ≤ m ∧ i = .int .i64 y ∧ (∃ D : Int, d = .int .i64 D ∧ Hid (D = ((((ks.map dep).take y).foldl max 0 : Nat) : Int))) ∧ Below w1.heap.size w1 wr) (fun _ i _ => m - (intOf i).toNat)
      case atStart => exact ⟨0, by omega, rfl, ⟨0, rfl, hid rfl⟩, Below.refl _ _⟩
      case round =>
        obtain ⟨y, hy, rfl, ⟨D, rfl, HD⟩, hbr⟩ := hrel
        by_cases hlt : y < m
        · have hyk : y < ks.length := by rw [← HM.out]; exact hlt
          obtain ⟨A2, c2, hv, hro⟩ := (hkept.later hbr).2 y hyk
          have hvl : y < vs.length := by rw [hkept.1]; exact hyk
          obtain ⟨b3, o3, rfl, hb3, hc3⟩ := hse (by omega)
          have hcc : wr.cell? ⟨b3, o3 + y, none⟩ = some (.slice A2 ks[y].length c2) := by
            have := hc3 y hvl
            rw [List.getElem?_eq_getElem hvl] at hv
            injection hv with hv
            rw [hv] at this
            exact (hbr.cell (p := ⟨b3, o3 + y, none⟩) hb3).trans this
          have hkl := HKL.out ks[y] (List.getElem_mem hyk)
          have HC := hid (HIH.out ks[y] A2 c2 wr hkl (row_sees hro) (row_cap hro))
          have HT : Hid ((((ks.map dep).take (y + 1)).foldl max 0 : Nat) = max (((ks.map dep).take y).foldl max 0) (dep ks[y])) := Lib.hid (by
            rw [List.take_succ_eq_append_getElem (by simpa using hyk), List.foldl_append, List.getElem_map]
            rfl)
          obtain ⟨dk, hdk⟩ : ∃ dk, dk = dep ks[y] := ⟨_, rfl⟩
          rw [← hdk] at HC HT
          obtain ⟨nk, hnk⟩ : ∃ nk, nk = ks[y].length := ⟨_, rfl⟩
          rw [← hnk] at HC hcc hkl
          clear hdk hnk hro hv hc3 hrow hkept
          go_wp2_with fail
          refine HC.out.mono ?_
          rintro e w2 ⟨rfl, hb2⟩
          have hb4 := hbr.trans (hb2.mono hbr.size)
          go_wp2_with fail
          all_goals
            go_roundw
            case rel => exact ⟨y + 1, by omega, by go_num, ⟨_, rfl, hid (by rw [HT.out]; have := HD.out; omega)⟩, hb4⟩
            case measure => simp [intOf]; omega
        · obtain rfl : y = m := by omega
          have HDD : Hid (D + 1 = (R : Int)) := Lib.hid (by
            rw [HR.out, HD.out, List.take_of_length_le (by rw [List.length_map, HM.out]; exact Nat.le_refl _)]
            rfl)
          have hDR : D + 1 = R := HDD.out
          have hD0 : D ≤ 65536 := by omega
          have hD1 : 0 ≤ D := by rw [HD.out]; omega
          clear hDR
          go_wp2_with fail
          go_ret
          exact ⟨by rw [← HDD.out]; rfl, hb.trans (hbr.mono hb.size)⟩
    · have HE := hid (rend_any A n c (x :: l') 0 w w.heap.size hn hs hm)
      have b1 : (endAt (x :: l') 0 != (n : Int)) = true := by
        rw [bne_iff_ne, ← hn]
        exact fun h => hw ((wood_end _).1 h)
      have HR := hid (dep_not hw)
      generalize endAt (x :: l') 0 = z at HE b1
      clear hw hs hn IH
      go_enter Tryz.func88, Tryz.ntmps88
      go_wp2_with fail
      refine HE.out.mono ?_
      rintro e w1 ⟨rfl, rfl⟩
      go_wp2_with fail
      go_ret
      exact ⟨by rw [HR.out]; rfl, Below.refl _ _⟩
theorem rdepth_any (A : Option Addr) (n c : Nat) (l : List Nd) (w : World) (hn : l.length = n) (hs : Sees w w.heap.size A (ncs l)) (hc : n ≤ c) (hm : n ≤ 65536) :
    Calls Tryz.prog 88 #[.slice A n c] w fun e w' => e = .returned (.int .i64 (dep l)) ∧ Below w.heap.size w w' := by
  have key : ∀ (N : Nat) (l : List Nd) (A : Option Addr) (c : Nat) (w : World), l.length ≤ N → l.length ≤ 65536 → Sees w w.heap.size A (ncs l) → l.length ≤ c →
      Calls Tryz.prog 88 #[.slice A l.length c] w fun e w' => e = .returned (.int .i64 (dep l)) ∧ Below w.heap.size w w' := by
    intro N
    induction N with
    | zero => exact fun l A c w h1 h2 hs hc => rdepth_step A l.length c l w rfl hs hc h2 (fun k A c wx hk => absurd hk (by omega))
    | succ N ih => exact fun l A c w h1 h2 hs hc => rdepth_step A l.length c l w rfl hs hc h2 (fun k A c wx hk hs hc => ih k A c wx (by omega) (by omega) hs hc)
  subst hn
  exact key l.length l A c w (Nat.le_refl _) hm hs hc
theorem lchk_long {l : List Nd} (h : 31 < l.length) : lchk l = 4 := by unfold lchk; rw [if_pos h]
theorem lchk_bad {l : List Nd} (h : l.length ≤ 31) {k : Nat} (hk : k < l.length) (hb : nok l[k] = false) : lchk l = 1 := by
  unfold lchk
  rw [if_neg (by omega), if_pos]
  rw [List.all_eq_false]
  exact ⟨l[k], List.getElem_mem hk, by simp [hb]⟩
theorem lchk_all {l : List Nd} (h : l.length ≤ 31) (ha : l.all nok = true) : lchk l = if ¬ Wood l 1 then 1 else if 8 < dep l then 5 else 0 := by
  unfold lchk
  rw [if_neg (by omega), if_neg (by rw [ha]; simp)]
theorem all_take {l : List Nd} {k : Nat} (hk : k < l.length) (h : (l.take k).all nok = true) (hn : nok l[k] = true) : (l.take (k + 1)).all nok = true := by
  rw [List.take_succ_eq_append_getElem hk, List.all_append, h]
  simp [hn]
theorem zc5 : (ncells zn).toArray = #[Value.int .i64 0, .int .i64 0, .int .i64 0, .int .i64 0, .string { data := #[] }] := rfl
theorem lcheck_any (A : Option Addr) (n c : Nat) (l : List Nd) (w : World) (hn : l.length = n) (hs : Sees w w.heap.size A (ncs l)) :
    Calls Tryz.prog 45 #[.slice A n c] w fun e w' => e = .returned (.int .i64 (lchk l)) ∧ Below w.heap.size w w' := by
  by_cases h31 : 31 < n
  · have HR := hid (lchk_long (by rw [hn]; exact h31))
    have d0 : decide ((31 : Int) < (n : Int)) = true := by simp; omega
    clear hs hn
    go_enter Tryz.func45, Tryz.ntmps45
    go_wp2_with fail
    go_ret
    exact ⟨by rw [HR.out]; rfl, Below.refl _ _⟩
  · have d0 : decide ((31 : Int) < (n : Int)) = false := by simp; omega
    have d0n : decide (31 < n) = false := by simp; omega
    have hu := Tryz.underlying73
    have hn31 : n ≤ 31 := by omega
    have HE := hid (fun wx (h : Sees wx w.heap.size A (ncs l)) => end_any A n c l 0 wx w.heap.size hn h (by omega))
    have HD := hid (fun wx (h : Sees wx wx.heap.size A (ncs l)) => depth_any A n c l wx hn h (by omega))
    have HN := hid hn
    have HBAD := hid (fun k (hk : k < l.length) (hb : nok l[k] = false) => lchk_bad (by rw [hn]; exact hn31) hk hb)
    have HALL := hid (fun (ha : l.all nok = true) => lchk_all (by rw [hn]; exact hn31) ha)
    obtain ⟨R, hR⟩ : ∃ R, R = lchk l := ⟨_, rfl⟩
    rw [← hR] at HBAD HALL ⊢
    clear hR hn h31
    go_enter Tryz.func45, Tryz.ntmps45
    go_wp2_with fail
    go_loopw [10] (fun i wr => ∃ k : Nat, k ≤ n ∧ i = .int .i64 k ∧ Hid ((l.take k).all nok = true) ∧ Below w.heap.size w wr) (fun i _ => n - (intOf i).toNat)
    case atStart => exact ⟨0, by omega, rfl, hid rfl, Below.refl _ _⟩
    case round =>
      obtain ⟨k, hk, rfl, HK, hbr⟩ := hrel
      by_cases hlt : k < n
      · have hkl : k < l.length := by rw [HN.out]; exact hlt
        have d1 : decide ((k : Int) < (n : Int)) = true := by simp; omega
        obtain ⟨b, o, rfl, hb, hcc, hc2, hrg⟩ := sees_node (hs.below hbr) k hkl
        clear hcc hc2
        have BN := Blk.new wr (ncells zn) 73
        have TH := BN.there 0 5 (by rw [ncells_len]; exact Nat.le_refl 5)
        have FIN := BN.sets (ncells l[k]) 0 (by rw [ncells_len, ncells_len]; exact Nat.le_refl 5)
        have e1 : (ncells zn).take 0 ++ ncells l[k] ++ (ncells zn).drop (0 + (ncells l[k]).length) = ncells l[k] := by simp [ncells]
        rw [e1] at FIN
        have hbz := hbr.size
        have HB2 := below_sets hbr.size (ncells l[k]) 0 (hbr.alloc hbr.size (.cells (ncells zn).toArray 73))
        have HC := hid (fun wx : World => node_any l[k] wx)
        have HONE := hid (show ∀ v ∈ ncells l[k], v.oneCell' = true from fun v hv => ncs_one [l[k]] v (by simpa [ncs] using hv))
        obtain ⟨R1, hR1⟩ : ∃ b, b = nok l[k] := ⟨_, rfl⟩
        have HR1 := hid hR1
        rw [← hR1] at HC
        obtain ⟨nc, hnc⟩ : ∃ nc, nc = ncells l[k] := ⟨_, rfl⟩
        have HSZ := hid (show nc.length = 5 by rw [hnc]; rfl)
        rw [← hnc] at hrg FIN HB2 HC HONE
        clear e1 hnc hR1 BN
        have RG := FIN.range 0 nc (by rw [HSZ.out, List.drop_zero, List.take_of_length_le (by rw [HSZ.out]; exact Nat.le_refl _)])
        clear FIN
        rw [zc5] at TH HB2 RG
        go_wp2_with (first
          | (refine wpList_load_mid rfl 73 (.tmp 12) rfl b (o + k * 5) rfl nc _ hrg hu rfl (by rw [HSZ.out]; exact info_node) ?_)
          | (refine wpList_store_mid rfl 73 (.tmp 4) (.tmp 13) rfl wr.heap.size 0 nc.toArray rfl rfl (by simpa [HSZ.out] using TH) (by simpa [HSZ.out] using info_node) (all_oneCell_toArray HONE.out) ?_)
          | (refine wpList_load_mid rfl 73 (.tmp 4) rfl wr.heap.size 0 rfl nc _ RG hu rfl (by rw [HSZ.out]; exact info_node) ?_)
          | fail)
        refine (HC.out _).mono ?_
        rintro e w2 ⟨rfl, hb2⟩
        have hb3 := HB2.trans (hb2.mono HB2.size)
        clear RG TH hrg HB2 hb2
        cases R1 with
        | true =>
          go_wp2_with fail
          go_roundw
          case rel => exact ⟨k + 1, by omega, by go_num, hid (all_take hkl HK.out HR1.out.symm), hb3⟩
          case measure => simp [intOf]; omega
        | false =>
          have HRR := hid (HBAD.out k hkl HR1.out.symm)
          go_wp2_with fail
          go_ret
          exact ⟨by rw [HRR.out]; rfl, hb3⟩
      · obtain rfl : k = n := by omega
        have HRR := hid (HALL.out (by have := HK.out; rwa [List.take_of_length_le (by rw [HN.out]; exact Nat.le_refl _)] at this))
        by_cases hw : Wood l 1
        · have HE2 := HE
          rw [show endAt l 0 = (k : Int) by rw [(wood_end l).2 hw, HN.out]] at HE2
          have HR2 : Hid (R = if 8 < dep l then 5 else 0) := hid (by rw [HRR.out, if_neg (by simpa using hw)])
          obtain ⟨d, hd⟩ : ∃ d, d = dep l := ⟨_, rfl⟩
          rw [← hd] at HD HR2
          by_cases h8 : 8 < d
          · have d8 : decide ((8 : Int) < (d : Int)) = true := by simp; omega
            have HR3 : Hid (R = 5) := hid (by rw [HR2.out, if_pos h8])
            clear hd
            go_wp2_with fail
            refine (HE2.out _ (hs.below hbr)).mono ?_
            rintro e w2 ⟨rfl, rfl⟩
            go_wp2_with fail
            refine (HD.out _ ((hs.below hbr).more hbr.size)).mono ?_
            rintro e w2 ⟨rfl, hb2⟩
            go_wp2_with fail
            go_ret
            exact ⟨by rw [HR3.out]; rfl, hbr.trans (hb2.mono hbr.size)⟩
          · have d8 : decide ((8 : Int) < (d : Int)) = false := by simp; omega
            have HR3 : Hid (R = 0) := hid (by rw [HR2.out, if_neg h8])
            clear hd
            go_wp2_with fail
            refine (HE2.out _ (hs.below hbr)).mono ?_
            rintro e w2 ⟨rfl, rfl⟩
            go_wp2_with fail
            refine (HD.out _ ((hs.below hbr).more hbr.size)).mono ?_
            rintro e w2 ⟨rfl, hb2⟩
            go_wp2_with fail
            go_ret
            exact ⟨by rw [HR3.out]; rfl, hbr.trans (hb2.mono hbr.size)⟩
        · have HR2 : Hid (R = 1) := hid (by rw [HRR.out, if_pos hw])
          have b1 : (endAt l 0 != (k : Int)) = true := by
            rw [bne_iff_ne, ← HN.out]
            exact fun h => hw ((wood_end l).1 h)
          generalize endAt l 0 = z at HE b1
          clear hw
          go_wp2_with fail
          refine (HE.out _ (hs.below hbr)).mono ?_
          rintro e w2 ⟨rfl, rfl⟩
          go_wp2_with fail
          go_ret
          exact ⟨by rw [HR2.out]; rfl, hbr⟩
theorem rlcheck_any (A : Option Addr) (n c : Nat) (l : List Nd) (w : World) (hn : l.length = n) (hs : Sees w w.heap.size A (ncs l)) (hc : n ≤ c) :
    Calls Tryz.prog 57 #[.slice A n c] w fun e w' => e = .returned (.int .i64 (lchk l)) ∧ Below w.heap.size w w' := by
  by_cases h31 : 31 < n
  · have HR := hid (lchk_long (by rw [hn]; exact h31))
    have d0 : decide ((31 : Int) < (n : Int)) = true := by simp; omega
    clear hs hn
    go_enter Tryz.func57, Tryz.ntmps57
    go_wp2_with fail
    go_ret
    exact ⟨by rw [HR.out]; rfl, Below.refl _ _⟩
  · have d0 : decide ((31 : Int) < (n : Int)) = false := by simp; omega
    have d0n : decide (31 < n) = false := by simp; omega
    have hu := Tryz.underlying73
    have hn31 : n ≤ 31 := by omega
    have HE := hid (fun wx (h : Sees wx w.heap.size A (ncs l)) => rend_any A n c l 0 wx w.heap.size hn h (by omega))
    have HD := hid (fun wx (h : Sees wx wx.heap.size A (ncs l)) => rdepth_any A n c l wx hn h hc (by omega))
    have HN := hid hn
    have HBAD := hid (fun k (hk : k < l.length) (hb : nok l[k] = false) => lchk_bad (by rw [hn]; exact hn31) hk hb)
    have HALL := hid (fun (ha : l.all nok = true) => lchk_all (by rw [hn]; exact hn31) ha)
    obtain ⟨R, hR⟩ : ∃ R, R = lchk l := ⟨_, rfl⟩
    rw [← hR] at HBAD HALL ⊢
    clear hR hn h31
    go_enter Tryz.func57, Tryz.ntmps57
    go_wp2_with fail
    go_loopw [3] (fun i wr => ∃ k : Nat, k ≤ n ∧ i = .int .i64 k ∧ Hid ((l.take k).all nok = true) ∧ Below w.heap.size w wr) (fun i _ => n - (intOf i).toNat)
    case atStart => exact ⟨0, by omega, rfl, hid rfl, Below.refl _ _⟩
    case round =>
      obtain ⟨k, hk, rfl, HK, hbr⟩ := hrel
      by_cases hlt : k < n
      · have hkl : k < l.length := by rw [HN.out]; exact hlt
        have d1 : decide ((k : Int) < (n : Int)) = true := by simp; omega
        obtain ⟨b, o, rfl, hb, hcc, hc2, hrg⟩ := sees_node (hs.below hbr) k hkl
        clear hcc hc2
        have HC := hid (fun wx : World => rnode_any l[k] wx)
        obtain ⟨R1, hR1⟩ : ∃ b, b = nok l[k] := ⟨_, rfl⟩
        have HR1 := hid hR1
        rw [← hR1] at HC
        obtain ⟨nc, hnc⟩ : ∃ nc, nc = ncells l[k] := ⟨_, rfl⟩
        have HSZ := hid (show nc.length = 5 by rw [hnc]; rfl)
        rw [← hnc] at hrg HC
        clear hnc hR1
        go_wp2_with (first
          | (refine wpList_load_mid rfl 73 (.tmp 15) rfl b (o + k * 5) rfl nc _ hrg hu rfl (by rw [HSZ.out]; exact info_node) ?_)
          | fail)
        refine (HC.out _).mono ?_
        rintro e w2 ⟨rfl, hb2⟩
        have hb3 := hbr.trans (hb2.mono hbr.size)
        clear hrg hb2
        cases R1 with
        | true =>
          go_wp2_with fail
          go_roundw
          case rel => exact ⟨k + 1, by omega, by go_num, hid (all_take hkl HK.out HR1.out.symm), hb3⟩
          case measure => simp [intOf]; omega
        | false =>
          have HRR := hid (HBAD.out k hkl HR1.out.symm)
          go_wp2_with fail
          go_ret
          exact ⟨by rw [HRR.out]; rfl, hb3⟩
      · obtain rfl : k = n := by omega
        have HRR := hid (HALL.out (by have := HK.out; rwa [List.take_of_length_le (by rw [HN.out]; exact Nat.le_refl _)] at this))
        by_cases h0 : k = 0
        · have b0 : ((k : Int) == 0) = true := by simp [h0]
          have HR2 : Hid (R = 1) := Lib.hid (by
            have : l = [] := List.length_eq_zero_iff.1 (by rw [HN.out]; exact h0)
            rw [HRR.out, this, if_pos (by unfold Wood; intro h; cases h)])
          clear h0
          go_wp2_with fail
          go_ret
          exact ⟨by rw [HR2.out]; rfl, hbr⟩
        · have b0 : ((k : Int) == 0) = false := by simp [h0]
          by_cases hw : Wood l 1
          · have HE2 := HE
            rw [show endAt l 0 = (k : Int) by rw [(wood_end l).2 hw, HN.out]] at HE2
            have HR2 : Hid (R = if 8 < dep l then 5 else 0) := hid (by rw [HRR.out, if_neg (by simpa using hw)])
            obtain ⟨d, hd⟩ : ∃ d, d = dep l := ⟨_, rfl⟩
            rw [← hd] at HD HR2
            by_cases h8 : 8 < d
            · have d8 : decide ((8 : Int) < (d : Int)) = true := by simp; omega
              have HR3 : Hid (R = 5) := hid (by rw [HR2.out, if_pos h8])
              clear hd h0
              go_wp2_with fail
              refine (HE2.out _ (hs.below hbr)).mono ?_
              rintro e w2 ⟨rfl, rfl⟩
              go_wp2_with fail
              refine (HD.out _ ((hs.below hbr).more hbr.size)).mono ?_
              rintro e w2 ⟨rfl, hb2⟩
              go_wp2_with fail
              go_ret
              exact ⟨by rw [HR3.out]; rfl, hbr.trans (hb2.mono hbr.size)⟩
            · have d8 : decide ((8 : Int) < (d : Int)) = false := by simp; omega
              have HR3 : Hid (R = 0) := hid (by rw [HR2.out, if_neg h8])
              clear hd h0
              go_wp2_with fail
              refine (HE2.out _ (hs.below hbr)).mono ?_
              rintro e w2 ⟨rfl, rfl⟩
              go_wp2_with fail
              refine (HD.out _ ((hs.below hbr).more hbr.size)).mono ?_
              rintro e w2 ⟨rfl, hb2⟩
              go_wp2_with fail
              go_ret
              exact ⟨by rw [HR3.out]; rfl, hbr.trans (hb2.mono hbr.size)⟩
          · have HR2 : Hid (R = 1) := hid (by rw [HRR.out, if_pos hw])
            have b1 : (endAt l 0 != (k : Int)) = true := by
              rw [bne_iff_ne, ← HN.out]
              exact fun h => hw ((wood_end l).1 h)
            generalize endAt l 0 = z at HE b1
            clear hw h0
            go_wp2_with fail
            refine (HE.out _ (hs.below hbr)).mono ?_
            rintro e w2 ⟨rfl, rfl⟩
            go_wp2_with fail
            go_ret
            exact ⟨by rw [HR2.out]; rfl, hbr⟩
end Go.Proofs.YtnhcjadkbogioaaGreat
namespace Go.Proofs.YtnhcjadkbogioaaGreat
open Go Go.RowKit OctM
def hasN (op : Int) : Bool := decide (3 ≤ op ∧ op ≤ 9)
def hasV (op : Int) : Bool := decide (6 ≤ op ∧ op ≤ 9)
def npm (op : Int) : Int := if op = 3 ∨ op = 4 then 15 else if hasN op = true then 7 else 0
def nbs (n : Nd) : List UInt8 := enc (held n.1) ++ ((if hasN n.1 = true then enc (held n.2.1) else []) ++ (if hasV n.1 = true then vbs n.2.2 else []))
def lbs (l : List Nd) : List UInt8 := if lchk l = 0 then enc (held (l.length : Int)) ++ l.flatMap nbs else []
theorem most_any (op : Int) (w : World) : Calls Tryz.prog 62 #[.int .i64 op] w fun e w' => e = .returned (.tuple #[.int .i64 (npm op), .bool (hasN op)]) ∧ w = w' := by
  by_cases h3 : op = 3
  · subst h3; go_enter Tryz.func62, Tryz.ntmps62; go_wp2; exact bodyPost_ret (results_tmp2 rfl _ _ _) rfl ⟨rfl, rfl⟩
  by_cases h4 : op = 4
  · subst h4; go_enter Tryz.func62, Tryz.ntmps62; go_wp2; exact bodyPost_ret (results_tmp2 rfl _ _ _) rfl ⟨rfl, rfl⟩
  by_cases h5 : op = 5
  · subst h5; go_enter Tryz.func62, Tryz.ntmps62; go_wp2; exact bodyPost_ret (results_tmp2 rfl _ _ _) rfl ⟨rfl, rfl⟩
  by_cases h6 : op = 6
  · subst h6; go_enter Tryz.func62, Tryz.ntmps62; go_wp2; exact bodyPost_ret (results_tmp2 rfl _ _ _) rfl ⟨rfl, rfl⟩
  by_cases h7 : op = 7
  · subst h7; go_enter Tryz.func62, Tryz.ntmps62; go_wp2; exact bodyPost_ret (results_tmp2 rfl _ _ _) rfl ⟨rfl, rfl⟩
  by_cases h8 : op = 8
  · subst h8; go_enter Tryz.func62, Tryz.ntmps62; go_wp2; exact bodyPost_ret (results_tmp2 rfl _ _ _) rfl ⟨rfl, rfl⟩
  by_cases h9 : op = 9
  · subst h9; go_enter Tryz.func62, Tryz.ntmps62; go_wp2; exact bodyPost_ret (results_tmp2 rfl _ _ _) rfl ⟨rfl, rfl⟩
  have hN : hasN op = false := by unfold hasN; exact decide_eq_false (by omega)
  have hR : Hid (npm op = 0 ∧ hasN op = false) := hid ⟨by unfold npm; rw [if_neg (by omega), hN]; rfl, hN⟩
  have b3 : (op == 3) = false := by simpa using h3
  have b4 : (op == 4) = false := by simpa using h4
  have b5 : (op == 5) = false := by simpa using h5
  have b6 : (op == 6) = false := by simpa using h6
  have b7 : (op == 7) = false := by simpa using h7
  have b8 : (op == 8) = false := by simpa using h8
  have b9 : (op == 9) = false := by simpa using h9
  clear h3 h4 h5 h6 h7 h8 h9 hN
  go_enter Tryz.func62, Tryz.ntmps62
  go_wp2
  exact bodyPost_ret (results_tmp2 rfl _ _ _) rfl ⟨by rw [hR.out.1, hR.out.2]; rfl, rfl⟩
theorem pholds_any (op : Int) (w : World) : Calls Tryz.prog 63 #[.int .i64 op] w fun e w' => e = .returned (.bool (hasV op)) ∧ w = w' := by
  by_cases h6 : 6 ≤ op
  · by_cases h9 : op ≤ 9
    · have hR : Hid (hasV op = true) := hid (by unfold hasV; exact decide_eq_true ⟨h6, h9⟩)
      have d1 : decide (6 ≤ op) = true := by simpa using h6
      have d2 : decide (op ≤ 9) = true := by simpa using h9
      clear h6 h9
      go_enter Tryz.func63, Tryz.ntmps63
      go_wp2
      go_ret
      exact ⟨by rw [hR.out]; rfl, rfl⟩
    · have hR : Hid (hasV op = false) := hid (by unfold hasV; exact decide_eq_false (by omega))
      have d1 : decide (6 ≤ op) = true := by simpa using h6
      have d2 : decide (op ≤ 9) = false := by simpa using h9
      clear h6 h9
      go_enter Tryz.func63, Tryz.ntmps63
      go_wp2
      go_ret
      exact ⟨by rw [hR.out]; rfl, rfl⟩
  · have hR : Hid (hasV op = false) := hid (by unfold hasV; exact decide_eq_false (by omega))
    have d1 : decide (6 ≤ op) = false := by simpa using h6
    clear h6
    go_enter Tryz.func63, Tryz.ntmps63
    go_wp2
    go_ret
    exact ⟨by rw [hR.out]; rfl, rfl⟩
end Go.Proofs.YtnhcjadkbogioaaGreat
namespace Go.Proofs.YtnhcjadkbogioaaGreat
open Go Go.RowKit
theorem guard_node : Tryz.prog.eqGuardType Tryz.prog.depth 73 = false := by kernel_rfl
theorem fieldsN : Tryz.prog.underlying 73 = some (.struct (Tryz.prog.fieldsOf 73)) := by kernel_rfl
theorem eq_node (d : Nat) (a b : Nd) (w : World) : (Op.equalIn (d + 4) 73 (.agg (ncells a).toArray) (.agg (ncells b).toArray)).run Tryz.prog w = .ok (decide (a = b)) w := by
  obtain ⟨op, m, v⟩ := a
  obtain ⟨op', m', v'⟩ := b
  have hsz : ∀ w, (sizeOf 33).run Tryz.prog w = .ok 3 w := fun w => by kernel_rfl
  have hag : ∀ w, (isAgg 33).run Tryz.prog w = .ok true w := fun w => by kernel_rfl
  rw [run_equalIn_agg w (d + 3) 73 _ _ fieldsN (by kernel_rfl)]
  have e : (Tryz.prog.fieldsOf 73).toList = [⟨"Op", 3, 0, false, "", "", 0⟩, ⟨"N", 3, 1, false, "", "", 8⟩, ⟨"V", 33, 2, false, "", "", 16⟩] := by kernel_rfl
  rw [e]
  have px : ∀ (a b : Int) (h : V3), (part 33 (ncells (a, b, h)).toArray 2).run Tryz.prog w = .ok (.agg (vcells h).toArray) w := fun a b h => by
    simp only [part, Sem.run_bind, hag, Result.andThen_ok, hsz, if_true, Sem.run_pure]
    rfl
  have p0 : ∀ (a b : Int) (h : V3), (part 3 (ncells (a, b, h)).toArray 0).run Tryz.prog w = .ok (.int .i64 a) w := fun a b h => by simp [go_sem, part, isAgg, ncells]
  have p1 : ∀ (a b : Int) (h : V3), (part 3 (ncells (a, b, h)).toArray 1).run Tryz.prog w = .ok (.int .i64 b) w := fun a b h => by simp [go_sem, part, isAgg, ncells]
  have ef : (Op.equalIn (d + 3) 33 (.agg (vcells v).toArray) (.agg (vcells v').toArray)).run Tryz.prog w = .ok (decide (v = v')) w := eq_val (d + 1) v v' w
  have q0 : ∀ a b : Int, (Op.equalIn (d + 3) 3 (.int .i64 a) (.int .i64 b)).run Tryz.prog w = .ok (a == b) w := fun a b => run_equalIn_int w (d + 2) 3 .i64 .i64 a b Tryz.underlying3
  simp only [Op.eqFields, if_pos (show ("Op" : String) ≠ "_" by decide), if_pos (show ("N" : String) ≠ "_" by decide), if_pos (show ("V" : String) ≠ "_" by decide)]
  simp only [Sem.run_bind, Sem.run_ite, Sem.run_pure, px, p0, p1, q0, ef, Result.andThen_ok]
  by_cases h1 : op = op' <;> by_cases h2 : m = m' <;> by_cases h3 : v = v' <;> simp [h1, h2, h3]
theorem range_sees {w : World} {B b o k : Nat} {cs : List Value} (h : w.rangeAt b (o + k) cs) {w' : World} (hl : Below B w w') (hb : b < B) : w'.rangeAt b (o + k) cs := fun j v hj => (hl.cell (p := ⟨b, o + k + j, none⟩) hb).trans (h j v hj)
theorem rsame_len (A : Option Addr) (n c : Nat) (l : List Nd) (A' : Option Addr) (c' : Nat) (m : List Nd) (w : World) (hn : l.length = n) (hn' : m.length = n) (hs : Sees w w.heap.size A (ncs l)) (hs' : Sees w w.heap.size A' (ncs m)) (hm : n ≤ 65536) :
    Calls Tryz.prog 15 #[.slice A n c, .slice A' n c'] w fun e w' => e = .returned (.bool (decide (l = m))) ∧ Below w.heap.size w w' := by
  have HN := hid hn
  have HN' := hid hn'
  have hu := Tryz.underlying73
  obtain ⟨R, hR⟩ : ∃ R, R = decide (l = m) := ⟨_, rfl⟩
  have HR := hid hR
  rw [← hR]
  clear hn hn' hR
  have hbe : ((n : Int) != (n : Int)) = false := by simp
  go_enter Tryz.func15, Tryz.ntmps15
  go_wp2_with fail
  go_loopw [5] (fun i wr => ∃ k : Nat, k ≤ n ∧ i = .int .i64 k ∧ Hid (l.take k = m.take k) ∧ Below w.heap.size w wr) (fun i _ => n - (intOf i).toNat)
  case atStart => exact ⟨0, Nat.zero_le _, rfl, hid (by simp), Below.refl _ _⟩
  case round =>
    obtain ⟨k, hk, rfl, HP, hbr⟩ := hrel
    by_cases hlt : k < n
    · have d1 : decide ((k : Int) < (n : Int)) = true := by simp; omega
      have hkl : k < l.length := by rw [HN.out]; exact hlt
      have hkm : k < m.length := by rw [HN'.out]; exact hlt
      obtain ⟨b, o, rfl, hb, hc1, hc2, hrg⟩ := sees_node ((hs.below hbr).more hbr.size) k hkl
      obtain ⟨b', o', rfl, hb', hc1', hc2', hrg'⟩ := sees_node ((hs'.below hbr).more hbr.size) k hkm
      clear hc1 hc2 hc1' hc2'
      have HA := hid (fun (w1 : World) (hl : Le wr w1) => range_sees hrg hl hb)
      have HB := hid (fun (w1 : World) (hl : Le wr w1) => range_sees hrg' hl hb')
      have HQ := hid (fun w1 : World => eq_node 9996 l[k] m[k] w1)
      obtain ⟨x, hx⟩ : ∃ x, x = l[k] := ⟨_, rfl⟩
      obtain ⟨y, hy⟩ : ∃ y, y = m[k] := ⟨_, rfl⟩
      rw [← hx] at HA HQ
      rw [← hy] at HB HQ
      have HX := hid hx
      have HY := hid hy
      have HSX : Hid ((ncells x).length = 5) := hid rfl
      have HSY : Hid ((ncells y).length = 5) := hid rfl
      clear hx hy hrg hrg'
      cases hxy : decide (x = y) with
      | true =>
        rw [hxy] at HQ
        have HE := hid (of_decide_eq_true hxy)
        clear hxy
        go_wp2_with fail
        refine wp_region_steady [] 26 (by kernel_rfl) (by kernel_rfl) (by kernel_rfl) (by rfl) ?_
        iterate 3 (refine wpG_quiet (by rfl) (by rfl) (by rfl) (fun K hK => ?_); go_big_quiet_op; refine hK _ ?_; clear hK K)
        refine wpG_run (by rfl) (by rfl) (.agg (ncells x).toArray) (fun w1 hl => exec_load 73 (.tmp 19) rfl b (o + k * 5) rfl (ncells x) _ (HA.out w1 hl.1) hu rfl (by rw [HSX.out]; exact info_node)) ?_
        simp only [pq4]
        iterate 3 (refine wpG_quiet (by rfl) (by rfl) (by rfl) (fun K hK => ?_); go_big_quiet_op; refine hK _ ?_; clear hK K)
        refine wpG_run (by rfl) (by rfl) (.agg (ncells y).toArray) (fun w1 hl => exec_load 73 (.tmp 23) rfl b' (o' + k * 5) rfl (ncells y) _ (HB.out w1 hl.1) hu rfl (by rw [HSY.out]; exact info_node)) ?_
        simp only [pq4]
        refine wpG_run (by rfl) (by rfl) (.bool (!true)) (fun w1 hl => exec_neq 73 _ (.tmp 20) (.tmp 24) rfl _ _ rfl rfl guard_node true (HQ.out w1)) ?_
        simp only [pq4]
        refine wpG_nil fun w1 hl _ => ?_
        have hb1 := hbr.trans (hl.mono hbr.size)
        clear hbr
        go_wp2_with fail
        go_roundw
        case rel => exact ⟨k + 1, by omega, by go_num, hid (by rw [List.take_succ_eq_append_getElem hkl, List.take_succ_eq_append_getElem hkm, HP.out, ← HX.out, ← HY.out, HE.out]), hb1⟩
        case measure => simp [intOf]; omega
      | false =>
        rw [hxy] at HQ
        have HRR : Hid (R = false) := Lib.hid (by
          rw [HR.out]
          refine decide_eq_false fun e => of_decide_eq_false hxy ?_
          rw [HX.out, HY.out]
          subst e
          rfl)
        clear hxy
        go_wp2_with fail
        refine wp_region_steady [] 26 (by kernel_rfl) (by kernel_rfl) (by kernel_rfl) (by rfl) ?_
        iterate 3 (refine wpG_quiet (by rfl) (by rfl) (by rfl) (fun K hK => ?_); go_big_quiet_op; refine hK _ ?_; clear hK K)
        refine wpG_run (by rfl) (by rfl) (.agg (ncells x).toArray) (fun w1 hl => exec_load 73 (.tmp 19) rfl b (o + k * 5) rfl (ncells x) _ (HA.out w1 hl.1) hu rfl (by rw [HSX.out]; exact info_node)) ?_
        simp only [pq4]
        iterate 3 (refine wpG_quiet (by rfl) (by rfl) (by rfl) (fun K hK => ?_); go_big_quiet_op; refine hK _ ?_; clear hK K)
        refine wpG_run (by rfl) (by rfl) (.agg (ncells y).toArray) (fun w1 hl => exec_load 73 (.tmp 23) rfl b' (o' + k * 5) rfl (ncells y) _ (HB.out w1 hl.1) hu rfl (by rw [HSY.out]; exact info_node)) ?_
        simp only [pq4]
        refine wpG_run (by rfl) (by rfl) (.bool (!false)) (fun w1 hl => exec_neq 73 _ (.tmp 20) (.tmp 24) rfl _ _ rfl rfl guard_node false (HQ.out w1)) ?_
        simp only [pq4]
        refine wpG_nil fun w1 hl _ => ?_
        have hb1 := hbr.trans (hl.mono hbr.size)
        clear hbr
        go_wp2_with fail
        go_ret
        exact ⟨by rw [HRR.out]; rfl, hb1⟩
    · obtain rfl : k = n := by omega
      have HRR : Hid (R = true) := Lib.hid (by
        have := HP.out
        rw [List.take_of_length_le (by rw [HN.out]; exact Nat.le_refl _), List.take_of_length_le (by rw [HN'.out]; exact Nat.le_refl _)] at this
        rw [HR.out]
        exact decide_eq_true this)
      go_wp2_with fail
      go_ret
      exact ⟨by rw [HRR.out]; rfl, hbr⟩
theorem rsame_any (A : Option Addr) (n c : Nat) (l : List Nd) (A' : Option Addr) (n' c' : Nat) (m : List Nd) (w : World) (hn : l.length = n) (hn' : m.length = n') (hs : Sees w w.heap.size A (ncs l)) (hs' : Sees w w.heap.size A' (ncs m)) (hm : n ≤ 65536) :
    Calls Tryz.prog 15 #[.slice A n c, .slice A' n' c'] w fun e w' => e = .returned (.bool (decide (l = m))) ∧ Below w.heap.size w w' := by
  by_cases h : n = n'
  · subst h
    exact rsame_len A n c l A' c' m w hn hn' hs hs' hm
  · have hbe : ((n : Int) != (n' : Int)) = true := by rw [bne_iff_ne]; omega
    have HNE : Hid (decide (l = m) = false) := hid (decide_eq_false (by rintro rfl; omega))
    clear h hn hn' hs hs'
    go_enter Tryz.func15, Tryz.ntmps15
    go_wp2_with fail
    go_ret
    exact ⟨by rw [HNE.out]; rfl, Below.refl _ _⟩
end Go.Proofs.YtnhcjadkbogioaaGreat
