/- Groups: Open, Close, Join and Quit of any groups, by the document. -/
import Derived.Test.YtglhgdkghddcaaaGrR
import Derived.Test.YtglhgdkghddcaaaRowC
import Derived.Test.YtglhgdkghddcaaaGrK
import Derived.Test.YtglhgdkghddcaaaRowN
import Derived.Test.YtglhgdkghddcaaaRowS
namespace Go.Proofs.Ytglhgdkghddcaaa
set_option linter.unusedVariables false
set_option linter.unusedSimpArgs false
open Go Go.RowKit IdsM

theorem row_addr {w : World} {base : Nat} {e : TypeId} {sz n c : Nat} {A : Option Addr} {xs : List Value} (h : w.ownsRow base e sz (.slice A n c) n xs) (hn : 0 < n) : ∃ g, A = some ⟨g, 0, none⟩ := by
  rcases h.2 with ⟨e, h0⟩ | ⟨g, cap, cur, e, _⟩
  · omega
  · injection e with e1 _ _
    exact ⟨g, e1⟩
theorem gplc_low {l : List Gp} (h : Up (gnos l)) (g : Int) (k : Nat) (hk : k < l.length) (hp : k < gplc l g) : l[k].no < g := by
  have hl : k < (gnos l).length := by simp [gnos]; exact hk
  have h1 : (gnos l)[k] ∈ (gnos l).take ((gnos l).countP (· < g)) := List.mem_take_iff_getElem.2 ⟨k, by unfold gplc at hp; omega, rfl⟩
  rw [(split_at g h).1, List.mem_filter] at h1
  have := of_decide_eq_true h1.2
  simpa [gnos] using this
theorem gplc_high {l : List Gp} (h : Up (gnos l)) (g : Int) (k : Nat) (hk : k < l.length) (hp : gplc l g ≤ k) : ¬ l[k].no < g := by
  have hl : k < (gnos l).length := by simp [gnos]; exact hk
  have h1 : (gnos l)[k] ∈ (gnos l).drop ((gnos l).countP (· < g)) := List.mem_drop_iff_getElem.2 ⟨k - gplc l g, by unfold gplc at hp ⊢; omega, by unfold gplc at hp ⊢; congr 1; omega⟩
  rw [(split_at g h).2, List.mem_filter] at h1
  have := h1.2
  simp [gnos] at this
  omega
/-- l[k:] -/
theorem gcut {w : World} {A : Option Addr} {n c : Nat} {l : List Gp} (h : SeesG w A n c l) (k : Nat) (hk : k ≤ n) : ∃ A2, (∀ wx, (Instr.slice 22 (.slice A n c) (some (.int .i64 (k : Int))) none none).run Try.prog wx = .ok (.slice A2 (n - k) (c - k)) wx) ∧ ∀ W, Below w.heap.size w W → Sees W W.heap.size A2 (rws gpc (l.drop k)) := by
  obtain ⟨i1, ji, jz0, jz1, jz2⟩ := info_grp
  have hcc := h.cap
  cases A with
  | some ad =>
    obtain ⟨ad2, h1, h2⟩ := rowcut_l (P := Try.prog) 22 41 i1 2 Try.underlying22 ji jz1 ad n (n - k) k c (k : Int) .i64 (by omega) rfl h.cap
    refine ⟨some ad2, h1, fun W hW => ?_⟩
    have := h2 W W.heap.size (rws gpc l) (by rw [rws_len _ (gp_len _), h.len]) (h.later hW).see
    rwa [rws_drop l k (gp_len l)] at this
  | none =>
    have hl : l = [] := by
      cases l with
      | nil => rfl
      | cons x t =>
        obtain ⟨b, o, e, _⟩ := h.see (by simp [rws, gpc])
        cases e
    subst hl
    have hn : n = 0 := by have := h.len; simpa using this.symm
    subst hn
    have hk0 : k = 0 := by omega
    subst hk0
    refine ⟨none, fun wx => ?_, fun W hW => by rw [List.drop_nil]; exact Sees.nil_⟩
    have he : Try.prog.elem 22 = 41 := by simp [Program.elem, Try.underlying22]
    have ht' : Try.prog.underlying 22 = some (.slice (Try.prog.elem 22)) := by rw [he]; exact Try.underlying22
    rw [run_slice_l wx 22 none 0 c ht' .i64 ((0 : Nat) : Int) (by omega) (by omega), he]
    simp [sizeOf, typeInfo, ji, jz1, sliced]

set_option maxRecDepth 100000 in
set_option maxHeartbeats 1600000 in
theorem rfind_any (A : Option Addr) (n c : Nat) (l : List Gp) (g id : Int) (w : World) (h : SeesG w A n c l) (hz : n ≤ 65536) :
    Calls Try.prog 43 #[.slice A n c, .int .i64 g, .int .i64 id] w fun e w' => e = .returned (.tuple #[.int .i64 (if acode l g id = 0 then gat l g else 0), .int .i64 (acode l g id)]) ∧ Below w.heap.size w w' := by
  have HP := Lib.hid (rplace_any A n c l g w h hz)
  have HB0 := Lib.hid (Below.refl w.heap.size w)
  by_cases h1 : (0 ≤ g ∧ g < 16) ∧ 1 ≤ id ∧ id < 1073741824
  · have d1 : decide (g < 0) = false := decide_eq_false (by omega)
    have d2 : decide (16 ≤ g) = false := decide_eq_false (by omega)
    have d3 : decide (id < 1) = false := decide_eq_false (by omega)
    have d4 : decide (1073741824 ≤ id) = false := decide_eq_false (by omega)
    by_cases hm : g ∈ gnos l
    · rw [(acode_ok h1 hm).1, if_pos rfl]
      rcases gat_cases l g with ⟨k, hk, ek, hrest⟩ | ⟨_, _, h3⟩
      · rw [ek] at HP ⊢
        clear hrest
        have d5 : decide ((k : Int) < 0) = false := decide_eq_false (by omega)
        clear h h1 hm ek hk
        go_enter Try.func43, Try.ntmps43
        go_wp2_with fail
        refine (HP.out).mono ?_
        rintro e w3 ⟨rfl, hb3⟩
        have HB3 := Lib.hid (hb3)
        clear hb3
        go_wp2_with fail
        go_ret2
        exact ⟨rfl, HB3.out⟩
      · exact absurd hm h3
    · rw [(acode_none h1 hm).1, if_neg (by decide)]
      rw [(show gat l g = -1 from by
        rcases gat_cases l g with ⟨k, hk, ek, _, _, h3⟩ | ⟨e, _, _⟩
        · exact absurd h3 hm
        · exact e)] at HP
      clear h h1 hm
      go_enter Try.func43, Try.ntmps43
      go_wp2_with fail
      refine (HP.out).mono ?_
      rintro e w3 ⟨rfl, hb3⟩
      have HB3 := Lib.hid (hb3)
      clear hb3
      go_wp2_with fail
      go_ret2
      exact ⟨rfl, HB3.out⟩
  · rw [(acode_arg (l := l) h1).1, if_neg (by decide)]
    clear h HP
    by_cases d1 : g < 0
    · have d1 : decide (g < 0) = true := decide_eq_true d1
      clear h1
      go_enter Try.func43, Try.ntmps43
      go_wp2_with fail
      go_ret2
      exact ⟨rfl, HB0.out⟩
    · have b1 : decide (g < 0) = false := decide_eq_false d1
      by_cases d2 : 16 ≤ g
      · have d2 : decide (16 ≤ g) = true := decide_eq_true d2
        clear h1
        go_enter Try.func43, Try.ntmps43
        go_wp2_with fail
        go_ret2
        exact ⟨rfl, HB0.out⟩
      · have b2 : decide (16 ≤ g) = false := decide_eq_false d2
        by_cases d3 : id < 1
        · have d3 : decide (id < 1) = true := decide_eq_true d3
          clear h1
          go_enter Try.func43, Try.ntmps43
          go_wp2_with fail
          go_ret2
          exact ⟨rfl, HB0.out⟩
        · have b3 : decide (id < 1) = false := decide_eq_false d3
          have d4 : decide (1073741824 ≤ id) = true := decide_eq_true (by omega)
          clear h1
          go_enter Try.func43, Try.ntmps43
          go_wp2_with fail
          go_ret2
          exact ⟨rfl, HB0.out⟩

set_option maxRecDepth 100000 in
set_option maxHeartbeats 1600000 in
theorem rturn_any (A : Option Addr) (n c : Nat) (l : List Gp) (k : Nat) (hk : k < l.length) (A2 : Option Addr) (n2 c2 : Nat) (m : List Int) (w : World) (h : SeesG w A n c l) (hz : n ≤ 65536) (hm : okL w A2 n2 c2 m) :
    Calls Try.prog 44 #[.slice A n c, .int .i64 (k : Int), .slice A2 n2 c2] w (GivesG w (gabs (l.set k ⟨l[k].no, A2, n2, c2, m⟩))) := by
  have hu := Try.underlying41
  obtain ⟨i1, ji, jz0, jz1, jz2⟩ := info_grp
  have hkn : k < n := by rw [← h.len]; exact hk
  have hb0 := (Below.refl w.heap.size w).alloc (Nat.le_refl _) (.cells #[] 41)
  have HB0 := Lib.hid hb0
  have HROW0 := Lib.hid (row_lit w w.heap.size 41 2 0 #[] (Nat.le_refl _) (by simp [maxLen]) rfl)
  have HSEE := Lib.hid (h.later hb0).see
  have HLEN : Hid ((rws gpc l).length = n * 2) := Lib.hid (by rw [rws_len _ (gp_len _), h.len])
  have hone : Hid (∀ u ∈ rws gpc l, u.oneCell' = true) := Lib.hid (rws_all (fun y _ => gpc_one y))
  obtain ⟨b, o, e, _, hg⟩ := h.get k hk
  have HC := Lib.hid (fun W hW => (hg W hW).2.1)
  have HFIN : Hid (∀ (w5 : World) (g5 c5 : Nat), Below w.heap.size w w5 → w5.ownsRow w.heap.size 41 2 (.slice (some ⟨g5, 0, none⟩) n c5) n (rws gpc l) → GivesG w (gabs (l.set k ⟨l[k].no, A2, n2, c2, m⟩)) (.returned (.slice (some ⟨g5, 0, none⟩) n c5)) (w5.setCells g5 (k * 2) [.int .i64 l[k].no, .slice A2 n2 c2])) := Lib.hid (fun w5 g5 c5 hb hr => by
    obtain ⟨r1, r2, r3⟩ := row_sets (f := gpc) (sz := 2) (gp_len l) hr h.len k hkn ⟨l[k].no, A2, n2, c2, m⟩ rfl
    have hB : Below w.heap.size w (w5.setCells g5 (k * 2) [.int .i64 l[k].no, .slice A2 n2 c2]) := below_sets r3 _ _ hb
    have hc := row_cap r1
    refine ⟨_, n, c5, l.set k ⟨l[k].no, A2, n2, c2, m⟩, rfl, ⟨by rw [List.length_set]; exact h.len, hc.1, hc.2, row_sees r1, fun x hx => ?_⟩, rfl, hB⟩
    rcases List.mem_or_eq_of_mem_set hx with hx | rfl
    · exact (h.ok x hx).later hB
    · have := hm.later hB
      exact ⟨this.len, this.cap, this.max, this.see⟩)
  have HTH : Hid (∀ (w5 : World) (g5 c5 : Nat), w5.ownsRow w.heap.size 41 2 (.slice (some ⟨g5, 0, none⟩) n c5) n (rws gpc l) → w5.there g5 (k * 2) 2) := Lib.hid (fun w5 g5 c5 hr => (row_sets (f := gpc) (sz := 2) (gp_len l) hr h.len k hkn ⟨l[k].no, A2, n2, c2, m⟩ rfl).2.1)
  have hnk : ¬ n ≤ k := by omega
  have hn0 : 0 < n := by omega
  have hcap := h.cap
  subst e
  generalize gabs (l.set k ⟨l[k].no, A2, n2, c2, m⟩) = res at HFIN ⊢
  generalize l[k].no = q at HC HFIN
  clear h hg hm hk hb0
  go_enter Try.func44, Try.ntmps44
  go_wp2_with (first
    | (at_builtin
       refine wpList_appk _ rfl (.tmp 8) (.tmp 9) 22 rfl w.heap.size 41 i1 _ 2 32 Try.underlying22 ji jz0 jz1 jz2 rfl (by decide) (.slice (some ⟨w.heap.size, 0, none⟩) 0 0) 0 [] rfl HROW0.out _ (some ⟨b, o, none⟩) c (rws gpc l) n rfl HLEN.out HSEE.out hone.out (by unfold maxLen; omega) (by omega) HB0.out.size ?_
       intro A5 c5 w5 hr5 hb5 hg5 hat5
       rw [Nat.zero_add, List.nil_append] at hr5
       obtain ⟨g5, e5⟩ := row_addr hr5 hn0
       subst e5
       have HB5 := Lib.hid (HB0.out.trans hb5)
       have HR5 := Lib.hid hr5
       have ca : w5.cell? ⟨b, o + k * 2, none⟩ = some (.int .i64 q) := HC.out w5 HB5.out
       have hth := HTH.out w5 g5 c5 hr5
       have HTH5 := Lib.hid hth
       clear hr5 hb5 hg5 hat5 hth)
    | (refine wpList_store_mid rfl 41 (.tmp 20) (.tmp 19) rfl g5 (k * 2) #[.int .i64 q, .slice A2 n2 c2] rfl rfl HTH5.out info_gp (by kernel_rfl) ?_)
    | fail)
  go_ret
  exact HFIN.out w5 g5 c5 HB5.out HR5.out

theorem acode_zero {l : List Gp} {g id : Int} (h : acode l g id = 0) : ((0 ≤ g ∧ g < 16) ∧ 1 ≤ id ∧ id < 1073741824) ∧ g ∈ gnos l := by
  by_cases h1 : (0 ≤ g ∧ g < 16) ∧ 1 ≤ id ∧ id < 1073741824
  · by_cases h2 : g ∈ gnos l
    · exact ⟨h1, h2⟩
    · rw [(acode_none h1 h2).1] at h; simp at h
  · rw [(acode_arg (l := l) h1).1] at h; simp at h
theorem chg_set {l : List Gp} (hup : Up (gnos l)) (k : Nat) (hk : k < l.length) (g : Int) (hg : l[k].no = g) (f : List Int → List Int) (A2 : Option Addr) (n2 c2 : Nat) (m2 : List Int) (hm : m2 = f l[k].m) :
    gabs (l.set k ⟨l[k].no, A2, n2, c2, m2⟩) = chg1 l g f := by
  subst hm
  refine List.ext_getElem (by simp [gabs, chg1]) (fun j hj1 hj2 => ?_)
  have hj : j < l.length := by simpa [chg1] using hj2
  simp only [gabs, chg1, List.getElem_map, List.getElem_set]
  by_cases e : k = j
  · subst e
    simp [gab, hg]
  · rw [if_neg e]
    have : ¬ l[j].no = g := fun h2 => e (gno_inj hup hk hj (by rw [h2, hg]))
    simp [gab, this]

set_option maxRecDepth 100000 in
set_option maxHeartbeats 1600000 in
theorem rjoin_any (A : Option Addr) (n c : Nat) (l : List Gp) (g id : Int) (w : World) (h : SeesG w A n c l) (hz : n ≤ 65536) (hz2 : ∀ g ∈ l, g.n ≤ 65000) (hok : GOk l) :
    Calls Try.prog 16 #[.slice A n c, .int .i64 g, .int .i64 id] w (GivesGE w (jres l g id) (jcode l g id)) := by
  have HF := Lib.hid (rfind_any A n c l g id w h hz)
  by_cases ha : acode l g id = 0
  · obtain ⟨h1, hm⟩ := acode_zero ha
    rcases gat_cases l g with ⟨k, hk, ek, hno, hgm, hrest⟩ | ⟨_, _, h3⟩
    · clear hrest
      have hzk : l[k].n ≤ 65000 := hz2 _ (List.getElem_mem hk)
      have hrise := (hok.2 _ (List.getElem_mem hk)).2
      rw [ha, if_pos rfl, ek] at HF
      have his := (acode_ok (id := id) h1 hm).2
      rw [hgm] at his
      obtain ⟨b, o, e, _, hg⟩ := h.get k hk
      have HC := Lib.hid (fun W hW => (hg W hW).2.2.1)
      have HOK := Lib.hid (fun W hW => (hg W hW).2.2.2.okL)
      have HHAS := Lib.hid (fun W (hW : okL W l[k].A l[k].n l[k].c l[k].m) => ref_has l[k].A l[k].n l[k].c l[k].m id W W.heap.size hW.len hW.see (by omega))
      have hnk : ¬ n ≤ k := by rw [← h.len]; omega
      by_cases hin : id ∈ l[k].m
      · rw [decide_eq_true hin] at HHAS his
        have e1 : jcode l g id = 7 := by unfold jcode; rw [ha, his]; rfl
        have e2 : jres l g id = [] := by unfold jres; rw [e1]; rfl
        rw [e1, e2]
        subst e
        generalize l[k].A = qA at *
        generalize l[k].n = qn at *
        generalize l[k].c = qc at *
        generalize l[k].m = qm at *
        clear h hg hok hz2 hm hgm hrise hzk his hin hno ek ha h1 hk
        go_enter Try.func16, Try.ntmps16
        go_wp2_with fail
        refine (HF.out).mono ?_
        rintro e w3 ⟨rfl, hb3⟩
        have HB3 := Lib.hid (hb3)
        clear hb3
        have kc := HC.out w3 HB3.out
        go_wp2_with fail
        refine (HHAS.out w3 (HOK.out w3 HB3.out)).mono ?_
        rintro e w4 ⟨rfl, rfl⟩
        go_wp2_with fail
        go_ret2
        exact ⟨none, 0, 0, [], rfl, SeesG.nil_ _, rfl, HB3.out⟩
      · rw [decide_eq_false hin] at HHAS his
        have e1 : jcode l g id = 0 := by unfold jcode; rw [ha, his]; rfl
        have e2 : jres l g id = chg1 l g (fun m => put m id) := by unfold jres; rw [e1]; rfl
        rw [e1, e2]
        have HREF := Lib.hid (fun W (hW : okL W l[k].A l[k].n l[k].c l[k].m) => ref_put l[k].A l[k].n l[k].c l[k].m id W hW.len hW.cap hW.max hW.see (by omega))
        have HT : Hid (∀ W, Below w.heap.size w W → ∀ A2 c2, okL W A2 (refPut l[k].m id).length c2 (refPut l[k].m id) → Calls Try.prog 44 #[.slice A n c, .int .i64 (k : Int), .slice A2 (refPut l[k].m id).length c2] W (GivesG W (chg1 l g (fun m => put m id)))) := Lib.hid (fun W hW A2 c2 ho => by
          rw [← chg_set hok.1 k hk g hno (fun m => put m id) A2 (refPut l[k].m id).length c2 (refPut l[k].m id) (by rw [put_ref hrise])]
          exact rturn_any A n c l k hk A2 _ c2 _ W (h.later hW) hz ho)
        generalize chg1 l g (fun m => put m id) = res at HT ⊢
        have HT2 := HT
        generalize refPut l[k].m id = m2 at HREF HT HT2
        subst e
        generalize l[k].A = qA at *
        generalize l[k].n = qn at *
        generalize l[k].c = qc at *
        generalize l[k].m = qm at *
        clear h hg hok hz2 hm hgm hrise hzk his hin hno ek ha h1 hk HT2 e1 e2
        go_enter Try.func16, Try.ntmps16
        go_wp2_with fail
        refine (HF.out).mono ?_
        rintro e w3 ⟨rfl, hb3⟩
        have HB3 := Lib.hid (hb3)
        clear hb3
        have kc := HC.out w3 HB3.out
        go_wp2_with fail
        refine (HHAS.out w3 (HOK.out w3 HB3.out)).mono ?_
        rintro e w4 ⟨rfl, rfl⟩
        go_wp2_with fail
        refine (HREF.out w3 (HOK.out w3 HB3.out)).mono ?_
        intro e w4 hh
        obtain ⟨A4, c4, rfl, ho4, hb4⟩ := hh
        have HB4 := Lib.hid (HB3.out.trans (hb4.mono HB3.out.size))
        have HT4 := Lib.hid (HT.out w4 HB4.out A4 c4 ⟨rfl, (Own.cap ho4).1, (Own.cap ho4).2, Own.sees ho4⟩)
        generalize m2.length = n4 at HT4 ⊢
        clear ho4 hb4 HT HREF HHAS HOK HC kc
        go_wp2_with fail
        refine HT4.out.mono ?_
        intro e w5 hh
        obtain ⟨A5, n5, c5, gs5, rfl, hs5, hg5, hb5⟩ := hh.base HB4.out
        have F1 := Lib.hid hs5
        have F2 := Lib.hid hg5
        have F3 := Lib.hid hb5
        clear hs5 hg5 hb5 hh HT4
        go_wp2_with fail
        go_ret2
        exact ⟨A5, n5, c5, gs5, rfl, F1.out, F2.out, F3.out⟩
    · exact absurd hm h3
  · have e1 : jcode l g id = acode l g id := if_pos ha
    have e2 : jres l g id = [] := by unfold jres; rw [e1, if_neg ha]
    rw [e1, e2]
    rw [if_neg ha] at HF
    have b1 : (acode l g id != 0) = true := by simpa using ha
    generalize acode l g id = ac at HF b1 ⊢
    clear h hok hz2 ha e1 e2
    go_enter Try.func16, Try.ntmps16
    go_wp2_with fail
    refine (HF.out).mono ?_
    rintro e w3 ⟨rfl, hb3⟩
    have HB3 := Lib.hid (hb3)
    clear hb3
    go_wp2_with fail
    go_ret2
    exact ⟨none, 0, 0, [], rfl, SeesG.nil_ _, rfl, HB3.out⟩

set_option maxRecDepth 100000 in
set_option maxHeartbeats 1600000 in
theorem rquit_any (A : Option Addr) (n c : Nat) (l : List Gp) (g id : Int) (w : World) (h : SeesG w A n c l) (hz : n ≤ 65536) (hz2 : ∀ g ∈ l, g.n ≤ 65000) (hok : GOk l) :
    Calls Try.prog 18 #[.slice A n c, .int .i64 g, .int .i64 id] w (GivesGE w (qres l g id) (qcode l g id)) := by
  have HF := Lib.hid (rfind_any A n c l g id w h hz)
  by_cases ha : acode l g id = 0
  · obtain ⟨h1, hm⟩ := acode_zero ha
    rcases gat_cases l g with ⟨k, hk, ek, hno, hgm, hrest⟩ | ⟨_, _, h3⟩
    · clear hrest
      have hzk : l[k].n ≤ 65000 := hz2 _ (List.getElem_mem hk)
      have hrise := (hok.2 _ (List.getElem_mem hk)).2
      rw [ha, if_pos rfl, ek] at HF
      have his := (acode_ok (id := id) h1 hm).2
      rw [hgm] at his
      obtain ⟨b, o, e, _, hg⟩ := h.get k hk
      have HC := Lib.hid (fun W hW => (hg W hW).2.2.1)
      have HOK := Lib.hid (fun W hW => (hg W hW).2.2.2.okL)
      have HHAS := Lib.hid (fun W (hW : okL W l[k].A l[k].n l[k].c l[k].m) => ref_has l[k].A l[k].n l[k].c l[k].m id W W.heap.size hW.len hW.see (by omega))
      have hnk : ¬ n ≤ k := by rw [← h.len]; omega
      by_cases hin : id ∈ l[k].m
      · rw [decide_eq_true hin] at HHAS his
        have e1 : qcode l g id = 0 := by unfold qcode; rw [ha, his]; rfl
        have e2 : qres l g id = chg1 l g (fun m => drop m id) := by unfold qres; rw [e1]; rfl
        rw [e1, e2]
        have HREF := Lib.hid (fun W (hW : okL W l[k].A l[k].n l[k].c l[k].m) => ref_drop l[k].A l[k].n l[k].c l[k].m id W hW.len hW.see hzk)
        have HT : Hid (∀ W, Below w.heap.size w W → ∀ A2 c2, okL W A2 (without l[k].m id).length c2 (without l[k].m id) → Calls Try.prog 44 #[.slice A n c, .int .i64 (k : Int), .slice A2 (without l[k].m id).length c2] W (GivesG W (chg1 l g (fun m => drop m id)))) := Lib.hid (fun W hW A2 c2 ho => by
          rw [← chg_set hok.1 k hk g hno (fun m => drop m id) A2 (without l[k].m id).length c2 (without l[k].m id) (by rw [drop_ref hrise])]
          exact rturn_any A n c l k hk A2 _ c2 _ W (h.later hW) hz ho)
        generalize chg1 l g (fun m => drop m id) = res at HT ⊢
        have HT2 := HT
        generalize without l[k].m id = m2 at HREF HT HT2
        subst e
        generalize l[k].A = qA at *
        generalize l[k].n = qn at *
        generalize l[k].c = qc at *
        generalize l[k].m = qm at *
        clear h hg hok hz2 hm hgm hrise hzk his hin hno ek ha h1 hk HT2 e1 e2
        go_enter Try.func18, Try.ntmps18
        go_wp2_with fail
        refine (HF.out).mono ?_
        rintro e w3 ⟨rfl, hb3⟩
        have HB3 := Lib.hid (hb3)
        clear hb3
        have kc := HC.out w3 HB3.out
        go_wp2_with fail
        refine (HHAS.out w3 (HOK.out w3 HB3.out)).mono ?_
        rintro e w4 ⟨rfl, rfl⟩
        go_wp2_with fail
        refine (HREF.out w3 (HOK.out w3 HB3.out)).mono ?_
        intro e w4 hh
        obtain ⟨A4, c4, rfl, ho4, hb4⟩ := hh
        have HB4 := Lib.hid (HB3.out.trans (hb4.mono HB3.out.size))
        have HT4 := Lib.hid (HT.out w4 HB4.out A4 c4 ⟨rfl, (Own.cap ho4).1, (Own.cap ho4).2, Own.sees ho4⟩)
        generalize m2.length = n4 at HT4 ⊢
        clear ho4 hb4 HT HREF HHAS HOK HC kc
        go_wp2_with fail
        refine HT4.out.mono ?_
        intro e w5 hh
        obtain ⟨A5, n5, c5, gs5, rfl, hs5, hg5, hb5⟩ := hh.base HB4.out
        have F1 := Lib.hid hs5
        have F2 := Lib.hid hg5
        have F3 := Lib.hid hb5
        clear hs5 hg5 hb5 hh HT4
        go_wp2_with fail
        go_ret2
        exact ⟨A5, n5, c5, gs5, rfl, F1.out, F2.out, F3.out⟩
      · rw [decide_eq_false hin] at HHAS his
        have e1 : qcode l g id = 6 := by unfold qcode; rw [ha, his]; rfl
        have e2 : qres l g id = [] := by unfold qres; rw [e1]; rfl
        rw [e1, e2]
        subst e
        generalize l[k].A = qA at *
        generalize l[k].n = qn at *
        generalize l[k].c = qc at *
        generalize l[k].m = qm at *
        clear h hg hok hz2 hm hgm hrise hzk his hin hno ek ha h1 hk
        go_enter Try.func18, Try.ntmps18
        go_wp2_with fail
        refine (HF.out).mono ?_
        rintro e w3 ⟨rfl, hb3⟩
        have HB3 := Lib.hid (hb3)
        clear hb3
        have kc := HC.out w3 HB3.out
        go_wp2_with fail
        refine (HHAS.out w3 (HOK.out w3 HB3.out)).mono ?_
        rintro e w4 ⟨rfl, rfl⟩
        go_wp2_with fail
        go_ret2
        exact ⟨none, 0, 0, [], rfl, SeesG.nil_ _, rfl, HB3.out⟩
    · exact absurd hm h3
  · have e1 : qcode l g id = acode l g id := if_pos ha
    have e2 : qres l g id = [] := by unfold qres; rw [e1, if_neg ha]
    rw [e1, e2]
    rw [if_neg ha] at HF
    have b1 : (acode l g id != 0) = true := by simpa using ha
    generalize acode l g id = ac at HF b1 ⊢
    clear h hok hz2 ha e1 e2
    go_enter Try.func18, Try.ntmps18
    go_wp2_with fail
    refine (HF.out).mono ?_
    rintro e w3 ⟨rfl, hb3⟩
    have HB3 := Lib.hid (hb3)
    clear hb3
    go_wp2_with fail
    go_ret2
    exact ⟨none, 0, 0, [], rfl, SeesG.nil_ _, rfl, HB3.out⟩
end Go.Proofs.Ytglhgdkghddcaaa
