/- Groups: GroupOthers' walk. -/
import Derived.Test.YtglhgdkghddcaaaGrL
import Derived.Test.YtglhgdkghddcaaaGrI
namespace Go.Proofs.Ytglhgdkghddcaaa
set_option linter.unusedVariables false
set_option linter.unusedSimpArgs false
open Go Go.RowKit IdsM

def relOk (m : List Int) : Rel where
  rel v w := ∃ A n c, v = .slice A n c ∧ okL w A n c m
  mono := fun v w w' h ⟨A, n, c, e, ho⟩ => ⟨A, n, c, e, ho.later h⟩
  real := fun w ⟨_, _, _, e, _⟩ => by cases e
theorem put_len1 (m : List Int) (id : Int) : (put m id).length ≤ m.length + 1 := by
  unfold put
  split
  · have := len_mrg_le fEither m [id]
    simpa using this
  · omega
theorem jcode_ok {l : List Gp} {g id : Int} (h : jcode l g id = 0) : (0 ≤ g ∧ g < 16) ∧ (1 ≤ id ∧ id < 1073741824) ∧ g ∈ gnos l ∧ id ∉ gmem l g := by
  unfold jcode at h
  by_cases h1 : (0 ≤ g ∧ g < 16) ∧ 1 ≤ id ∧ id < 1073741824
  · by_cases h2 : g ∈ gnos l
    · obtain ⟨a, b⟩ := acode_ok (id := id) h1 h2
      rw [a, b] at h
      refine ⟨h1.1, h1.2, h2, fun e => ?_⟩
      rw [decide_eq_true e] at h
      exact absurd h (by decide)
    · obtain ⟨a, b⟩ := acode_none (l := l) h1 h2
      rw [a] at h
      simp at h
  · obtain ⟨a, b⟩ := acode_arg (l := l) h1
    rw [a] at h
    simp at h
theorem gmem_lput {l : List Gp} (h : GOk l) (g id : Int) (hi : 1 ≤ id ∧ id < 1073741824) (hg : g ∈ gnos l) : id ∈ gmem (lput l g id) g := by
  rcases gat_cases (lput l g id) g with ⟨k, hk, _, h1, h2, _⟩ | ⟨_, _, h3⟩
  · rw [h2]
    have hk' : k < l.length := by simpa [lput] using hk
    have e : (lput l g id)[k] = lput1 g id l[k] := by simp [lput]
    rw [e] at h1 ⊢
    exact (lput_mem (h.2 _ (List.getElem_mem hk')).2 g id id hi).2 (Or.inr ⟨h1, rfl⟩)
  · exact absurd (by rw [lput_nos]; exact hg) h3
theorem gmem_abs {l m : List Gp} (h : gabs l = gabs m) (hm : GOk m) (g : Int) : gmem l g = gmem m g := by
  have hl := gok_abs h hm
  rcases gat_cases l g with ⟨k, hk, _, h1, h2, _⟩ | ⟨_, h2, h3⟩
  · have hk' : k < m.length := by rw [← gabs_len, ← h, gabs_len]; exact hk
    have e : gab l[k] = gab m[k] := by rw [← gabs_get l k hk, ← gabs_get m k hk']; simp only [h]
    have e1 : l[k].no = m[k].no := congrArg Prod.fst e
    have e2 : l[k].m = m[k].m := congrArg Prod.snd e
    rw [h2, e2, ← gmem_at hm.1 k hk', ← e1, h1]
  · rcases gat_cases m g with ⟨k, hk, _, h1, _, hm2⟩ | ⟨_, h4, _⟩
    · exact absurd (by rw [gnos_abs h]; exact hm2) h3
    · rw [h2, h4]
theorem qcode_join {l gs : List Gp} {g id : Int} (hok : GOk l) (h : jcode l g id = 0) (hg : gabs gs = chg1 l g (fun m => put m id)) : GOk gs ∧ qcode gs g id = 0 ∧ qres gs g id = gabs l := by
  obtain ⟨h1, h2, h3, h4⟩ := jcode_ok h
  have e := hg.trans (lput_abs l g id).symm
  have hk := gok_abs e (lput_ok hok g id)
  have hn : g ∈ gnos gs := by rw [gnos_abs e, lput_nos]; exact h3
  obtain ⟨a, b⟩ := acode_ok (id := id) ⟨h1, h2⟩ hn
  have hm : id ∈ gmem gs g := by rw [gmem_abs e (lput_ok hok g id)]; exact gmem_lput hok g id h2 h3
  have q : qcode gs g id = 0 := by unfold qcode; rw [a, b, decide_eq_true hm]; rfl
  refine ⟨hk, q, ?_⟩
  unfold qres
  rw [if_pos q]
  have e2 : ∀ l : List Gp, chg1 l g (fun m => drop m id) = (gabs l).map (fun p => (p.1, if p.1 = g then drop p.2 id else p.2)) := fun l => by
    unfold chg1 gabs; rw [List.map_map]; rfl
  rw [e2, e, ← e2, lput_back hok g id h4]
theorem jres_ok {l : List Gp} {g id : Int} (h : jcode l g id = 0) : jres l g id = chg1 l g (fun m => put m id) := by unfold jres; rw [if_pos h]
theorem jres_no {l : List Gp} {g id : Int} (h : jcode l g id ≠ 0) : jres l g id = [] := by unfold jres; rw [if_neg h]

set_option maxRecDepth 100000 in
set_option maxHeartbeats 6400000 in
theorem walk_gothers (A : Option Addr) (n c : Nat) (l : List Gp) (g x y : Int) (w : World) (h : SeesG w A n c l) :
    Calls Try.prog 5 #[.slice A n c, .int .i64 g, .agg #[.int .i64 x, .int .i64 y]] w fun e w' => e = .returned (.bool true) ∧ Below w.heap.size w w' := by
  have hb0 := (Below.refl w.heap.size w).alloc (Nat.le_refl _) (.cells #[.int .i64 x, .int .i64 y] 38)
  have HB0 := Lib.hid hb0
  have HL := Lib.hid (large_any A n c l _ (h.later hb0))
  by_cases g1 : glarge l = true
  · rw [g1] at HL
    clear h g1 hb0
    go_enter Try.func5, Try.ntmps5
    go_wp2_with fail
    refine (HL.out).mono ?_
    rintro e w2 ⟨rfl, hb2⟩
    have HB2 := Lib.hid (HB0.out.trans (hb2.mono HB0.out.size))
    clear hb2
    go_wp2_with fail
    refine (gr_awake _).mono ?_
    rintro e w3 ⟨rfl, hb3⟩
    have HB3 := Lib.hid (HB2.out.trans (hb3.mono HB2.out.size))
    clear hb3
    go_wp2_with fail
    go_ret
    exact ⟨rfl, HB3.out⟩
  · have g1 : glarge l = false := by simpa using g1
    rw [g1] at HL
    obtain ⟨z1, z2⟩ := glarge_of g1
    have hn : n ≤ 65536 := by rw [← h.len]; omega
    have y2 : ∀ g ∈ l, g.n ≤ 65536 := fun g hg => by have := z2 g hg; omega
    have x2 : ∀ g ∈ l, g.n ≤ 65000 := fun g hg => by have := z2 g hg; omega
    have HCK := Lib.hid (fun W (hW : Below w.heap.size w W) => rgcheck_any A n c l W (h.later hW) hn y2)
    by_cases hok : GOk l
    · rw [decide_eq_true hok] at HCK
      obtain ⟨W1, HW1⟩ : ∃ W1, Hid (W1 = w.alloc (.cells #[.int .i64 x, .int .i64 y] 38)) := ⟨_, Lib.hid rfl⟩
      have HS1 := Lib.hid (h.later hb0)
      have F1 : Blk (w.alloc (.cells #[.int .i64 x, .int .i64 y] 38)) w.heap.size [.int .i64 x, .int .i64 y] := Blk.new w [.int .i64 x, .int .i64 y] 38
      rw [← HW1.out] at HB0 HL HS1 F1
      have HF1 := Lib.hid F1
      have HOF := Lib.hid (fun (z : Int) W (hW : Below W1.heap.size W1 W) => gof_any A n c l z W (HS1.out.later hW) hn y2 hok)
      have HMB := Lib.hid (fun (z : Int) W (hW : Below W1.heap.size W1 W) => gmembers_any A n c l z W (HS1.out.later hW) hn y2 hok.1)
      have HJ := Lib.hid (fun W (hW : Below W1.heap.size W1 W) => join_any A n c l g x W (HS1.out.later hW) hn x2 hok)
      have HCK1 := Lib.hid (fun W (hW : Below W1.heap.size W1 W) => rgcheck_any A n c l W (HS1.out.later hW) hn y2)
      rw [decide_eq_true hok] at HCK1
      have HGH := Lib.hid (fun k (hk : k < l.length) => gof_has hok x k hk)
      have HN := Lib.hid h.len
      have HZ2 := Lib.hid z2
      have HML := Lib.hid (fun k (hk : k < l.length) => show (gmem l l[k].no).length ≤ 65536 from by
        rw [gmem_at hok.1 k hk]
        have h1 := (h.ok _ (List.getElem_mem hk)).len
        have h2 := y2 _ (List.getElem_mem hk)
        omega)
      clear h g1 hb0 z1 z2 HCK F1
      go_enter Try.func5, Try.ntmps5
      go_wp2_with fail
      rw [← HW1.out]
      refine HL.out.mono ?_
      rintro e w2 ⟨rfl, hb2⟩
      have HB2 := Lib.hid hb2
      clear hb2
      go_wp2_with fail
      refine (HCK1.out _ HB2.out).mono ?_
      rintro e w3 ⟨rfl, hb3⟩
      have HB3 := Lib.hid (HB2.out.trans (hb3.mono HB2.out.size))
      clear hb3 HB2
      go_wp2_with fail
      go_loopw [7] (fun i wr => ∃ k : Nat, k ≤ n ∧ i = .int .i64 (k : Int) ∧ Hid (Below W1.heap.size W1 wr)) (fun i _ => n - (intOf i).toNat)
      case atStart => exact ⟨0, by omega, rfl, HB3⟩
      case round =>
        clear HB3
        obtain ⟨k, hk, rfl, HB⟩ := hrel
        by_cases hlt : k < n
        · have d0 : decide ((k : Int) < (n : Int)) = true := decide_eq_true (by omega)
          have hkl : k < l.length := by rw [HN.out]; exact hlt
          obtain ⟨b, o, rfl, _, hg⟩ := HS1.out.get k hkl
          have HC : Hid (∀ W, Below W1.heap.size W1 W → W.cell? ⟨b, o + k * 2, none⟩ = some (.int .i64 l[k].no)) := Lib.hid (fun W hW => (hg W hW).2.1)
          have HR := Lib.hid (HGH.out k hkl)
          have HRH := Lib.hid (fun wx : World => rhas_any (gof l x) l[k].no wx)
          rw [HR.out] at HRH
          have HM := Lib.hid (HMB.out l[k].no)
          have HMZ := Lib.hid (HML.out k hkl)
          have HO := Lib.hid (HOF.out x)
          generalize gmem l l[k].no = m at HRH HM HMZ
          generalize l[k].no = q at HC HRH HM
          obtain ⟨r, hr⟩ : ∃ r, r = decide (x ∈ m) := ⟨_, rfl⟩
          have HRR := Lib.hid hr
          rw [← hr] at HRH
          have hrr : (r != r) = false := by simp
          generalize gof l x = oo at HRH HO
          have HBW : Hid (∀ W, Le wr W → Below W1.heap.size W1 W) := Lib.hid (fun W hl => HB.out.trans (hl.mono HB.out.size))
          have ca : ∀ kk : LW wr, kk.val.cell? ⟨w.heap.size, 0, none⟩ = some (.int .i64 x) := fun kk => (HF1.out.later (HBW.out _ kk.le)).cell (j := 0) rfl
          have cb : ∀ kk : LW wr, kk.val.cell? ⟨b, o + k * 2, none⟩ = some (.int .i64 q) := fun kk => HC.out _ (HBW.out _ kk.le)
          clear hg hr HR HGH HML HOF HMB HJ
          go_wp2_with fail
          refine wp_region_steady [(42, relOk m)] 110 (by kernel_rfl) (by kernel_rfl) (by kernel_rfl) (by rfl) ?_
          repeat (first | (refine wpG_quiet (by rfl) (by rfl) (by rfl) (fun K hK => ?_); go_big_quiet_op; refine hK _ ?_; clear hK K) | (refine wpG_skip (by rfl) ?_; simp only [Act.put, List.setIfInBounds_toArray, List.set_cons_zero, List.set_cons_succ]))
          refine wpG_call (by rfl) (by rfl) 23 #[.slice (some ⟨b, o, none⟩) n c, .int .i64 x] (.int .u32 (oo.toNat : Int)) (by intro _; simp [go_sem]) (by kernel_rfl) (fun wx hl => HO.out wx (HBW.out wx hl.1)) ?_
          simp only [Act.put, List.setIfInBounds_toArray, List.set_cons_zero, List.set_cons_succ]
          repeat (first | (refine wpG_quiet (by rfl) (by rfl) (by rfl) (fun K hK => ?_); go_big_quiet_op; refine hK _ ?_; clear hK K) | (refine wpG_skip (by rfl) ?_; simp only [Act.put, List.setIfInBounds_toArray, List.set_cons_zero, List.set_cons_succ]))
          refine wpG_call (by rfl) (by rfl) 27 #[.int .u32 (oo.toNat : Int), .int .i64 q] (.bool r) (by intro _; simp [go_sem]) (by kernel_rfl) (fun wx hl => (HRH.out wx).mono ?_) ?_
          · rintro e w5 ⟨rfl, rfl⟩
            exact ⟨rfl, Below.refl _ _⟩
          simp only [Act.put, List.setIfInBounds_toArray, List.set_cons_zero, List.set_cons_succ]
          repeat (first | (refine wpG_quiet (by rfl) (by rfl) (by rfl) (fun K hK => ?_); go_big_quiet_op; refine hK _ ?_; clear hK K) | (refine wpG_skip (by rfl) ?_; simp only [Act.put, List.setIfInBounds_toArray, List.set_cons_zero, List.set_cons_succ]))
          refine wpG_calls (relOk m) (by rfl) (by rfl) 21 #[.slice (some ⟨b, o, none⟩) n c, .int .i64 q] (by intro _; simp [go_sem]) (fun wx hl => (HM.out wx (HBW.out wx hl.1)).mono ?_) ?_
          · rintro e w5 ⟨A5, n5, c5, rfl, ho, hb⟩
            exact ⟨_, rfl, hb, A5, n5, c5, rfl, ho⟩
          rintro _ ⟨_, _, _, ⟨A5, n5, c5, rfl, ho5⟩⟩
          have hn5 : n5 ≤ 65536 := by rw [← ho5.len]; exact HMZ.out
          simp only [Act.put, List.setIfInBounds_toArray, List.set_cons_zero, List.set_cons_succ]
          repeat (first | (refine wpG_quiet (by rfl) (by rfl) (by rfl) (fun K hK => ?_); go_big_quiet_op; refine hK _ ?_; clear hK K) | (refine wpG_skip (by rfl) ?_; simp only [Act.put, List.setIfInBounds_toArray, List.set_cons_zero, List.set_cons_succ]))
          refine wpG_call (by rfl) (by rfl) 28 #[.slice A5 n5 c5, .int .i64 x] (.bool r) (by intro _; simp [go_sem]) (by kernel_rfl) (fun wx hl => ?_) ?_
          · obtain ⟨A6, n6, c6, e6, ho6⟩ := hl.2 42 _ (by simp [Op.operands, Call.operands]) rfl (by intro h; cases h)
            cases e6
            refine (ref_has A5 n5 c5 m x wx wx.heap.size ho6.len ho6.see hn5).mono ?_
            rintro e w6 ⟨rfl, rfl⟩
            exact ⟨by rw [HRR.out], Below.refl _ _⟩
          simp only [Act.put, List.setIfInBounds_toArray, List.set_cons_zero, List.set_cons_succ]
          repeat (first | (refine wpG_quiet (by rfl) (by rfl) (by rfl) (fun K hK => ?_); go_big_quiet_op; refine hK _ ?_; clear hK K) | (refine wpG_skip (by rfl) ?_; simp only [Act.put, List.setIfInBounds_toArray, List.set_cons_zero, List.set_cons_succ]))
          refine wpG_nil fun w9 hl _ => ?_
          have HB9 := Lib.hid (HBW.out w9 hl)
          clear ca cb HBW
          go_wp2_with fail
          go_roundw
          case rel => exact ⟨k + 1, by omega, by go_num, HB9⟩
          case measure => simp [intOf]; omega
        · obtain rfl : k = n := by omega
          have kx := (HF1.out.later HB.out).cell (j := 0) rfl
          clear HMB HGH HML
          by_cases hj : jcode l g x = 0
          · have HJC := Lib.hid hj
            rw [hj, jres_ok hj] at HJ
            obtain ⟨j1, j2, j3, j4⟩ := jcode_ok hj
            have HJ4 := HJ
            go_wp2_with fail
            refine (HJ.out _ HB.out).mono ?_
            rintro e w4 ⟨A4, n4, c4, gs4, rfl, hs4, hg4, hb4⟩
            obtain ⟨q1, q2, q3⟩ := qcode_join hok HJC.out hg4
            have HB4 := Lib.hid (HB.out.trans (hb4.mono HB.out.size))
            have m4 : n4 ≤ 65536 := by rw [← hs4.len, ← gabs_len, hg4]; unfold chg1; rw [List.length_map, HN.out]; exact hn
            have e4 := hg4.trans (lput_abs l g x).symm
            have v4 : ∀ p ∈ gs4, p.n ≤ 65000 := fun p hp => by
              have h1 : gab p ∈ chg1 l g (fun m => put m x) := by rw [← hg4]; exact List.mem_map_of_mem hp
              obtain ⟨u, hu, e⟩ := List.mem_map.1 h1
              have h2 : (if u.no = g then put u.m x else u.m) = p.m := congrArg Prod.snd e
              rw [← (hs4.ok p hp).len, ← h2]
              have h3 := (HS1.out.ok u hu).len
              have h4 := HZ2.out u hu
              split
              · have := put_len1 u.m x
                omega
              · omega
            have HQ := Lib.hid (quit_any A4 n4 c4 gs4 g x w4 hs4 m4 v4 q1)
            rw [q2, q3] at HQ
            have v4' : ∀ p ∈ gs4, p.n ≤ 65536 := fun p hp => by have := v4 p hp; omega
            have HOX := Lib.hid (fun W (hW : Below w4.heap.size w4 W) => gof_any A4 n4 c4 gs4 x W (hs4.later hW) m4 v4' q1)
            have HOY := Lib.hid (fun W (hW : Below w4.heap.size w4 W) => gof_any A4 n4 c4 gs4 y W (hs4.later hW) m4 v4' q1)
            have eox : gof gs4 x = BitM.put (gof l x) g := by rw [gof_abs e4, lput_self hok g x j2 j3]
            rw [eox] at HOX
            have HEY : Hid (x ≠ y → gof gs4 y = gof l y) := Lib.hid (fun hne => by rw [gof_abs e4, lput_other hok g x y j2 hne])
            have HWI : Hid (∀ (wx : World), Calls Try.prog 29 #[.int .u32 ((gof l x).toNat : Int), .int .i64 g] wx fun e w' => e = .returned (.int .u32 ((BitM.put (gof l x) g).toNat : Int)) ∧ wx = w') := Lib.hid (fun wx => by
              obtain ⟨k', hk', e'⟩ : ∃ k' : Nat, k' < 32 ∧ g = (k' : Int) := ⟨g.toNat, by omega, by omega⟩
              rw [e']
              exact rwith_any _ k' hk' wx)
            have HOL := Lib.hid (HOF.out x)
            have HOYL := Lib.hid (HOF.out y)
            generalize gof l x = oo at HOX HWI HOL
            have kx4 := (HF1.out.later HB4.out).cell (j := 0) rfl
            clear hb4 hs4 hg4 q1 q2 q3 e4 v4 v4' m4 j1 j2 j3 j4 hj eox HJ HJ4 HOF kx HB
            go_wp2_with fail
            refine HQ.out.mono ?_
            rintro e w5 ⟨A5, n5, c5, gs5, rfl, hs5, hg5, hb5⟩
            have HB5 := Lib.hid (HB4.out.trans (hb5.mono HB4.out.size))
            have m5 : n5 ≤ 65536 := by rw [← hs5.len, ← gabs_len, hg5, gabs_len, HN.out]; exact hn
            have v5 : ∀ p ∈ gs5, p.n ≤ 65536 := fun p hp => by
              have h1 : gab p ∈ gabs l := by rw [← hg5]; exact List.mem_map_of_mem hp
              obtain ⟨u, hu, e⟩ := List.mem_map.1 h1
              have h2 : u.m = p.m := congrArg Prod.snd e
              rw [← (hs5.ok p hp).len, ← h2, (HS1.out.ok u hu).len]
              exact y2 u hu
            have HSAME := Lib.hid (fun W (hW : Below w5.heap.size w5 W) => rgsame_any A5 n5 c5 gs5 A k c l W (hs5.later hW) (HS1.out.later (HB5.out.trans (hW.mono HB5.out.size))) m5 hn v5 y2)
            rw [decide_eq_true hg5] at HSAME
            have HOX := Lib.hid (fun W (hW : Below w5.heap.size w5 W) => HOX.out W (hb5.trans (hW.mono hb5.size)))
            have HOY := Lib.hid (fun W (hW : Below w5.heap.size w5 W) => HOY.out W (hb5.trans (hW.mono hb5.size)))
            have HBU : Hid (∀ W, Le w5 W → Below w5.heap.size w5 W) := Lib.hid (fun W hl => hl)
            have HBU1 : Hid (∀ W, Le w5 W → Below W1.heap.size W1 W) := Lib.hid (fun W hl => HB5.out.trans (hl.mono HB5.out.size))
            have ca : ∀ kk : LW w5, kk.val.cell? ⟨w.heap.size, 0, none⟩ = some (.int .i64 x) := fun kk => (HF1.out.later (HBU1.out _ kk.le)).cell (j := 0) rfl
            have cy : ∀ kk : LW w5, kk.val.cell? ⟨w.heap.size, 1, none⟩ = some (.int .i64 y) := fun kk => (HF1.out.later (HBU1.out _ kk.le)).cell (j := 1) rfl
            have booo : (((BitM.put oo g).toNat : Int) == ((BitM.put oo g).toNat : Int)) = true := by simp
            clear hs5 hg5 hb5 m5 v5 HQ kx4
            by_cases hxy : x = y
            · have bxy : (x != y) = false := by simp [hxy]
              clear hxy HEY
              go_wp2_with fail
              refine wp_region_steady [] 110 (by kernel_rfl) (by kernel_rfl) (by kernel_rfl) (by rfl) ?_
              iterate 6 (refine wpG_quiet (by rfl) (by rfl) (by rfl) (fun K hK => ?_); go_big_quiet_op; refine hK _ ?_; clear hK K)
              iterate 9 (refine wpG_skip (by rfl) ?_; simp only [Act.put, List.setIfInBounds_toArray, List.set_cons_zero, List.set_cons_succ])
              iterate 1 (refine wpG_quiet (by rfl) (by rfl) (by rfl) (fun K hK => ?_); go_big_quiet_op; refine hK _ ?_; clear hK K)
              refine wpG_nil fun w8 hl8 _ => ?_
              have HB8 := Lib.hid (HBU1.out w8 hl8)
              have HBV : Hid (∀ W, Le w8 W → Below w5.heap.size w5 W) := Lib.hid (fun W hl => Le.trans hl8 hl)
              have HBV1 : Hid (∀ W, Le w8 W → Below W1.heap.size W1 W) := Lib.hid (fun W hl => HB8.out.trans (hl.mono HB8.out.size))
              clear ca cy HBU HBU1 hl8
              have ca : ∀ kk : LW w8, kk.val.cell? ⟨w.heap.size, 0, none⟩ = some (.int .i64 x) := fun kk => (HF1.out.later (HBV1.out _ kk.le)).cell (j := 0) rfl
              go_wp2_with fail
              refine wp_region_steady [] 110 (by kernel_rfl) (by kernel_rfl) (by kernel_rfl) (by rfl) ?_
              iterate 5 (refine wpG_quiet (by rfl) (by rfl) (by rfl) (fun K hK => ?_); go_big_quiet_op; refine hK _ ?_; clear hK K)
              refine wpG_call (by rfl) (by rfl) 12 #[.slice A5 n5 c5, .slice A k c] (.bool true) (by intro _; simp [go_sem]) (by kernel_rfl) (fun wx hl => HSAME.out wx (HBV.out wx hl.1)) ?_
              simp only [Act.put, List.setIfInBounds_toArray, List.set_cons_zero, List.set_cons_succ]
              iterate 5 (refine wpG_quiet (by rfl) (by rfl) (by rfl) (fun K hK => ?_); go_big_quiet_op; refine hK _ ?_; clear hK K)
              refine wpG_call (by rfl) (by rfl) 23 #[.slice A4 n4 c4, .int .i64 x] (.int .u32 ((BitM.put oo g).toNat : Int)) (by intro _; simp [go_sem]) (by kernel_rfl) (fun wx hl => HOX.out wx (HBV.out wx hl.1)) ?_
              simp only [Act.put, List.setIfInBounds_toArray, List.set_cons_zero, List.set_cons_succ]
              iterate 3 (refine wpG_quiet (by rfl) (by rfl) (by rfl) (fun K hK => ?_); go_big_quiet_op; refine hK _ ?_; clear hK K)
              refine wpG_call (by rfl) (by rfl) 23 #[.slice A k c, .int .i64 x] (.int .u32 (oo.toNat : Int)) (by intro _; simp [go_sem]) (by kernel_rfl) (fun wx hl => HOL.out wx (HBV1.out wx hl.1)) ?_
              simp only [Act.put, List.setIfInBounds_toArray, List.set_cons_zero, List.set_cons_succ]
              iterate 1 (refine wpG_quiet (by rfl) (by rfl) (by rfl) (fun K hK => ?_); go_big_quiet_op; refine hK _ ?_; clear hK K)
              refine wpG_call (by rfl) (by rfl) 29 #[.int .u32 (oo.toNat : Int), .int .i64 g] (.int .u32 ((BitM.put oo g).toNat : Int)) (by intro _; simp [go_sem]) (by kernel_rfl) (fun wx hl => (HWI.out wx).mono (by rintro e w9 ⟨rfl, rfl⟩; exact ⟨rfl, Below.refl _ _⟩)) ?_
              simp only [Act.put, List.setIfInBounds_toArray, List.set_cons_zero, List.set_cons_succ]
              iterate 3 (refine wpG_quiet (by rfl) (by rfl) (by rfl) (fun K hK => ?_); go_big_quiet_op; refine hK _ ?_; clear hK K)
              refine wpG_call (by rfl) (by rfl) 7 #[] (.bool true) (by intro _; simp [go_sem]) (by kernel_rfl) (fun wx hl => gr_awake wx) ?_
              simp only [Act.put, List.setIfInBounds_toArray, List.set_cons_zero, List.set_cons_succ]
              iterate 2 (refine wpG_quiet (by rfl) (by rfl) (by rfl) (fun K hK => ?_); go_big_quiet_op; refine hK _ ?_; clear hK K)
              refine wpG_nil fun w9 hl _ => ?_
              have HB9 := Lib.hid (HBV1.out w9 hl)
              clear ca HBV HBV1
              go_wp2_with fail
              go_ret
              exact ⟨rfl, (HB0.out.trans (HB9.out.mono HB0.out.size))⟩
            · have bxy : (x != y) = true := by simp [hxy]
              have e := HEY.out hxy
              rw [e] at HOY
              generalize gof l y = oy at HOY HOYL
              have byy : ((oy.toNat : Int) != (oy.toNat : Int)) = false := by simp
              clear hxy HEY e
              go_wp2_with fail
              refine wp_region_steady [] 110 (by kernel_rfl) (by kernel_rfl) (by kernel_rfl) (by rfl) ?_
              iterate 9 (refine wpG_quiet (by rfl) (by rfl) (by rfl) (fun K hK => ?_); go_big_quiet_op; refine hK _ ?_; clear hK K)
              refine wpG_call (by rfl) (by rfl) 23 #[.slice A4 n4 c4, .int .i64 y] (.int .u32 (oy.toNat : Int)) (by intro _; simp [go_sem]) (by kernel_rfl) (fun wx hl => HOY.out wx (HBU.out wx hl.1)) ?_
              simp only [Act.put, List.setIfInBounds_toArray, List.set_cons_zero, List.set_cons_succ]
              iterate 3 (refine wpG_quiet (by rfl) (by rfl) (by rfl) (fun K hK => ?_); go_big_quiet_op; refine hK _ ?_; clear hK K)
              refine wpG_call (by rfl) (by rfl) 23 #[.slice A k c, .int .i64 y] (.int .u32 (oy.toNat : Int)) (by intro _; simp [go_sem]) (by kernel_rfl) (fun wx hl => HOYL.out wx (HBU1.out wx hl.1)) ?_
              simp only [Act.put, List.setIfInBounds_toArray, List.set_cons_zero, List.set_cons_succ]
              iterate 2 (refine wpG_quiet (by rfl) (by rfl) (by rfl) (fun K hK => ?_); go_big_quiet_op; refine hK _ ?_; clear hK K)
              refine wpG_nil fun w8 hl8 _ => ?_
              have HB8 := Lib.hid (HBU1.out w8 hl8)
              have HBV : Hid (∀ W, Le w8 W → Below w5.heap.size w5 W) := Lib.hid (fun W hl => Le.trans hl8 hl)
              have HBV1 : Hid (∀ W, Le w8 W → Below W1.heap.size W1 W) := Lib.hid (fun W hl => HB8.out.trans (hl.mono HB8.out.size))
              clear ca cy HBU HBU1 hl8
              have ca : ∀ kk : LW w8, kk.val.cell? ⟨w.heap.size, 0, none⟩ = some (.int .i64 x) := fun kk => (HF1.out.later (HBV1.out _ kk.le)).cell (j := 0) rfl
              go_wp2_with fail
              refine wp_region_steady [] 110 (by kernel_rfl) (by kernel_rfl) (by kernel_rfl) (by rfl) ?_
              iterate 5 (refine wpG_quiet (by rfl) (by rfl) (by rfl) (fun K hK => ?_); go_big_quiet_op; refine hK _ ?_; clear hK K)
              refine wpG_call (by rfl) (by rfl) 12 #[.slice A5 n5 c5, .slice A k c] (.bool true) (by intro _; simp [go_sem]) (by kernel_rfl) (fun wx hl => HSAME.out wx (HBV.out wx hl.1)) ?_
              simp only [Act.put, List.setIfInBounds_toArray, List.set_cons_zero, List.set_cons_succ]
              iterate 5 (refine wpG_quiet (by rfl) (by rfl) (by rfl) (fun K hK => ?_); go_big_quiet_op; refine hK _ ?_; clear hK K)
              refine wpG_call (by rfl) (by rfl) 23 #[.slice A4 n4 c4, .int .i64 x] (.int .u32 ((BitM.put oo g).toNat : Int)) (by intro _; simp [go_sem]) (by kernel_rfl) (fun wx hl => HOX.out wx (HBV.out wx hl.1)) ?_
              simp only [Act.put, List.setIfInBounds_toArray, List.set_cons_zero, List.set_cons_succ]
              iterate 3 (refine wpG_quiet (by rfl) (by rfl) (by rfl) (fun K hK => ?_); go_big_quiet_op; refine hK _ ?_; clear hK K)
              refine wpG_call (by rfl) (by rfl) 23 #[.slice A k c, .int .i64 x] (.int .u32 (oo.toNat : Int)) (by intro _; simp [go_sem]) (by kernel_rfl) (fun wx hl => HOL.out wx (HBV1.out wx hl.1)) ?_
              simp only [Act.put, List.setIfInBounds_toArray, List.set_cons_zero, List.set_cons_succ]
              iterate 1 (refine wpG_quiet (by rfl) (by rfl) (by rfl) (fun K hK => ?_); go_big_quiet_op; refine hK _ ?_; clear hK K)
              refine wpG_call (by rfl) (by rfl) 29 #[.int .u32 (oo.toNat : Int), .int .i64 g] (.int .u32 ((BitM.put oo g).toNat : Int)) (by intro _; simp [go_sem]) (by kernel_rfl) (fun wx hl => (HWI.out wx).mono (by rintro e w9 ⟨rfl, rfl⟩; exact ⟨rfl, Below.refl _ _⟩)) ?_
              simp only [Act.put, List.setIfInBounds_toArray, List.set_cons_zero, List.set_cons_succ]
              iterate 3 (refine wpG_quiet (by rfl) (by rfl) (by rfl) (fun K hK => ?_); go_big_quiet_op; refine hK _ ?_; clear hK K)
              refine wpG_call (by rfl) (by rfl) 7 #[] (.bool true) (by intro _; simp [go_sem]) (by kernel_rfl) (fun wx hl => gr_awake wx) ?_
              simp only [Act.put, List.setIfInBounds_toArray, List.set_cons_zero, List.set_cons_succ]
              iterate 2 (refine wpG_quiet (by rfl) (by rfl) (by rfl) (fun K hK => ?_); go_big_quiet_op; refine hK _ ?_; clear hK K)
              refine wpG_nil fun w9 hl _ => ?_
              have HB9 := Lib.hid (HBV1.out w9 hl)
              clear ca HBV HBV1
              go_wp2_with fail
              go_ret
              exact ⟨rfl, (HB0.out.trans (HB9.out.mono HB0.out.size))⟩
          · rw [jres_no hj] at HJ
            have b1 : (jcode l g x != 0) = true := by simpa using hj
            generalize jcode l g x = jc at HJ b1
            clear hj HOF
            go_wp2_with fail
            refine (HJ.out _ HB.out).mono ?_
            rintro e w4 ⟨A4, n4, c4, gs4, rfl, hs4, hg4, hb4⟩
            have n40 : n4 = 0 := by rw [← hs4.len, ← gabs_len, hg4]; rfl
            subst n40
            have HB4 := Lib.hid (HB.out.trans (hb4.mono HB.out.size))
            clear hs4 hg4 hb4 kx HB
            go_wp2_with fail
            refine (gr_awake _).mono ?_
            rintro e w5 ⟨rfl, hb5⟩
            have HB5 := Lib.hid (HB4.out.trans (hb5.mono HB4.out.size))
            clear hb5
            go_wp2_with fail
            go_ret
            exact ⟨rfl, (HB0.out.trans (HB5.out.mono HB0.out.size))⟩
    · rw [decide_eq_false hok] at HCK
      clear h g1 hb0 z1 z2 hn y2 x2 hok
      go_enter Try.func5, Try.ntmps5
      go_wp2_with fail
      refine (HL.out).mono ?_
      rintro e w2 ⟨rfl, hb2⟩
      have HB2 := Lib.hid (HB0.out.trans (hb2.mono HB0.out.size))
      clear hb2
      go_wp2_with fail
      refine (HCK.out _ HB2.out).mono ?_
      rintro e w3 ⟨rfl, hb3⟩
      have HB3 := Lib.hid (HB2.out.trans (hb3.mono HB2.out.size))
      clear hb3
      go_wp2_with fail
      refine (gr_awake _).mono ?_
      rintro e w4 ⟨rfl, hb4⟩
      have HB4 := Lib.hid (HB3.out.trans (hb4.mono HB3.out.size))
      clear hb4
      go_wp2_with fail
      go_ret
      exact ⟨rfl, HB4.out⟩
end Go.Proofs.Ytglhgdkghddcaaa
