/- Groups: what is wrong with a group and a card; one group with other members; Join and Quit, by the program. -/
import Derived.Test.YtglhgdkghddcaaaGrF
namespace Go.Proofs.Ytglhgdkghddcaaa
set_option linter.unusedVariables false
set_option linter.unusedSimpArgs false
open Go Go.RowKit IdsM

def acode (l : List Gp) (g id : Int) : Int := if ¬ ((0 ≤ g ∧ g < 16) ∧ 1 ≤ id ∧ id < 1073741824) then 1 else if g ∉ gnos l then 6 else 0
def ais (l : List Gp) (g id : Int) : Bool := decide (acode l g id = 0) && decide (id ∈ gmem l g)
theorem acode_arg {l : List Gp} {g id : Int} (h : ¬ ((0 ≤ g ∧ g < 16) ∧ 1 ≤ id ∧ id < 1073741824)) : acode l g id = 1 ∧ ais l g id = false := by
  have e : acode l g id = 1 := if_pos h
  exact ⟨e, by unfold ais; rw [e]; rfl⟩
theorem acode_none {l : List Gp} {g id : Int} (h : (0 ≤ g ∧ g < 16) ∧ 1 ≤ id ∧ id < 1073741824) (h2 : g ∉ gnos l) : acode l g id = 6 ∧ ais l g id = false := by
  have e : acode l g id = 6 := by unfold acode; rw [if_neg (fun x => x h), if_pos h2]
  exact ⟨e, by unfold ais; rw [e]; rfl⟩
theorem acode_ok {l : List Gp} {g id : Int} (h : (0 ≤ g ∧ g < 16) ∧ 1 ≤ id ∧ id < 1073741824) (h2 : g ∈ gnos l) : acode l g id = 0 ∧ ais l g id = decide (id ∈ gmem l g) := by
  have e : acode l g id = 0 := by unfold acode; rw [if_neg (fun x => x h), if_neg (fun x => x h2)]
  exact ⟨e, by unfold ais; rw [e]; simp⟩

set_option maxRecDepth 100000 in
set_option maxHeartbeats 3200000 in
theorem ask_any (A : Option Addr) (n c : Nat) (l : List Gp) (g id : Int) (w : World) (h : SeesG w A n c l) (hz : n ≤ 65536) (hz2 : ∀ g ∈ l, g.n ≤ 65000) (hok : GOk l) :
    Calls Try.prog 39 #[.slice A n c, .int .i64 g, .int .i64 id] w fun e w' => e = .returned (.tuple #[.bool (ais l g id), .int .i64 (acode l g id)]) ∧ Below w.heap.size w w' := by
  have HG := Lib.hid (fun wx : World => grp_any g wx)
  have HD := Lib.hid (fun wx : World => crd_any id wx)
  have HN := Lib.hid h.len
  by_cases h1 : 0 ≤ g ∧ g < 16
  · rw [decide_eq_true h1] at HG
    by_cases h2 : 1 ≤ id ∧ id < 1073741824
    · rw [decide_eq_true h2] at HD
      have HP := Lib.hid (gplace_any A n c l g w h hz hok.1)
      by_cases h3 : g ∈ gnos l
      · obtain ⟨hkl, e1, e2⟩ := gmem_up hok.1 g h3
        obtain ⟨a1, a2⟩ := acode_ok (id := id) ⟨h1, h2⟩ h3
        rw [a1, a2, e2]
        rw [decide_eq_true h3] at HP
        generalize (gnos l).countP (· < g) = p at hkl e1 e2 HP ⊢
        obtain ⟨b, o, rfl, _, hg⟩ := h.get p hkl
        have HH : Hid (∀ W, Below w.heap.size w W → Calls Try.prog 52 #[.slice l[p].A l[p].n l[p].c, .int .i64 id] W fun e w' => e = .returned (.bool (decide (id ∈ l[p].m))) ∧ W = w') := Lib.hid (fun W hW => has_any _ _ _ _ id W (hg W hW).2.2.2.len (hg W hW).2.2.2.see (by have := hz2 _ (List.getElem_mem hkl); omega) (hok.2 _ (List.getElem_mem hkl)).2.1)
        have HC : Hid (∀ W, Below w.heap.size w W → W.cell? ⟨b, o + p * 2 + 1, none⟩ = some (.slice l[p].A l[p].n l[p].c)) := Lib.hid (fun W hW => (hg W hW).2.2.1)
        generalize decide (id ∈ l[p].m) = r at HH ⊢
        generalize l[p].A = qA at HH HC
        generalize l[p].n = qn at HH HC
        generalize l[p].c = qc at HH HC
        have hpn : p < n := by rw [← HN.out]; exact hkl
        clear h h1 h2 h3 hg e1 e2 hz2 hok hkl a1 a2 HN
        go_enter Try.func39, Try.ntmps39
        go_wp2_with fail
        refine (HG.out _).mono ?_
        rintro e w2 ⟨rfl, rfl⟩
        go_wp2_with fail
        refine (HD.out _).mono ?_
        rintro e w2 ⟨rfl, rfl⟩
        go_wp2_with fail
        refine HP.out.mono ?_
        rintro e w2 ⟨rfl, hb2⟩
        have HB2 := Lib.hid hb2
        have kc := HC.out w2 hb2
        clear hb2
        go_wp2_with fail
        refine (HH.out _ HB2.out).mono ?_
        rintro e w3 ⟨rfl, rfl⟩
        go_wp2_with fail
        go_ret2
        exact ⟨rfl, HB2.out⟩
      · obtain ⟨a1, a2⟩ := acode_none (l := l) (id := id) ⟨h1, h2⟩ h3
        rw [a1, a2]
        rw [decide_eq_false h3] at HP
        generalize (gnos l).countP (· < g) = p at HP
        clear h h1 h2 h3 hz2 hok a1 a2 HN
        go_enter Try.func39, Try.ntmps39
        go_wp2_with fail
        refine (HG.out _).mono ?_
        rintro e w2 ⟨rfl, rfl⟩
        go_wp2_with fail
        refine (HD.out _).mono ?_
        rintro e w2 ⟨rfl, rfl⟩
        go_wp2_with fail
        refine HP.out.mono ?_
        rintro e w2 ⟨rfl, hb2⟩
        have HB2 := Lib.hid hb2
        clear hb2
        go_wp2_with fail
        go_ret2
        exact ⟨rfl, HB2.out⟩
    · obtain ⟨a1, a2⟩ := acode_arg (l := l) (g := g) (id := id) (fun x => h2 x.2)
      rw [a1, a2]
      rw [decide_eq_false h2] at HD
      clear h h1 h2 hz2 hok a1 a2 HN
      go_enter Try.func39, Try.ntmps39
      go_wp2_with fail
      refine (HG.out _).mono ?_
      rintro e w2 ⟨rfl, rfl⟩
      go_wp2_with fail
      refine (HD.out _).mono ?_
      rintro e w2 ⟨rfl, rfl⟩
      go_wp2_with fail
      go_ret2
      exact ⟨rfl, Below.refl _ _⟩
  · obtain ⟨a1, a2⟩ := acode_arg (l := l) (g := g) (id := id) (fun x => h1 x.1)
    rw [a1, a2]
    rw [decide_eq_false h1] at HG
    clear h h1 hz2 hok a1 a2 HN
    go_enter Try.func39, Try.ntmps39
    go_wp2_with fail
    refine (HG.out _).mono ?_
    rintro e w2 ⟨rfl, rfl⟩
    go_wp2_with fail
    go_ret2
    exact ⟨rfl, Below.refl _ _⟩

set_option maxRecDepth 100000 in
set_option maxHeartbeats 1600000 in
theorem one1_any (g : Gp) (q : Int) (B1 B2 : Nat) (fid : FuncId) (cap : Array Value) (f : List Int → List Int) (w : World) (h : okGp w g) (hz : g.n ≤ 65000)
    (hen : ∀ args wx, (callFunc fid args).run Try.prog wx = .ok (.enter fid args) wx) (hB1 : w.cell? ⟨B1, 0, none⟩ = some (.int .i64 q)) (hB2 : w.cell? ⟨B2, 0, none⟩ = some (.func (.func fid) #[] cap))
    (hf : ∀ W, Below w.heap.size w W → Calls Try.prog fid (#[.slice g.A g.n g.c] ++ cap) W (GivesInts W (f g.m))) :
    Calls Try.prog 64 (#[.agg #[.int .i64 g.no, .slice g.A g.n g.c]] ++ #[.pointer (some ⟨B1, 0, none⟩), .pointer (some ⟨B2, 0, none⟩)]) w (GivesInts w (if g.no = q then f g.m else g.m)) := by
  have hu := Try.underlying41
  have hb0 := (Below.refl w.heap.size w).alloc (Nat.le_refl _) (.cells #[.int .i64 g.no, .slice g.A g.n g.c] 41)
  have HB0 := Lib.hid hb0
  have k1 := (hb0.cell (p := ⟨B1, 0, none⟩) (World.block_lt_of_cell? _ ⟨B1, 0, none⟩ hB1)).trans hB1
  have k2 := (hb0.cell (p := ⟨B2, 0, none⟩) (World.block_lt_of_cell? _ ⟨B2, 0, none⟩ hB2)).trans hB2
  have HC := Lib.hid (hf _ hb0)
  have HK := Lib.hid (keepi_any g _ (h.later hb0) (by omega))
  have rg := (Blk.new w [.int .i64 g.no, .slice g.A g.n g.c] 41).range 0 [.int .i64 g.no, .slice g.A g.n g.c] rfl
  obtain ⟨x, A, n, c, m⟩ := g
  dsimp only at *
  show Calls Try.prog 64 #[.agg #[.int .i64 x, .slice A n c], .pointer (some ⟨B1, 0, none⟩), .pointer (some ⟨B2, 0, none⟩)] w _
  clear hb0 h hB1 hB2 hf
  by_cases h1 : x = q
  · rw [if_pos h1]
    have b1 : (x == q) = true := by simpa using h1
    clear h1 HK rg
    go_enter Try.func64, Try.ntmps64
    go_wp2_with fail
    refine HC.out.mono ?_
    intro e w2 hh
    have hh := hh.base HB0.out
    obtain ⟨A2, c2, rfl, ho, hb2⟩ := hh
    have HO := Lib.hid ho
    have HB2 := Lib.hid hb2
    clear ho hb2
    go_wp2_with fail
    go_ret
    exact ⟨A2, c2, rfl, HO.out, HB2.out⟩
  · rw [if_neg h1]
    have b1 : (x == q) = false := by simpa using h1
    clear h1 HC
    go_enter Try.func64, Try.ntmps64
    go_wp2_with (first
      | (refine wpList_load_mid rfl 41 (.tmp 3) rfl w.heap.size 0 rfl [.int .i64 x, .slice A n c] _ rg hu rfl info_gp ?_
         simp only [Act.put, List.setIfInBounds_toArray, List.set_cons_zero, List.set_cons_succ])
      | fail)
    refine HK.out.mono ?_
    intro e w2 hh
    have hh := hh.base HB0.out
    obtain ⟨A2, c2, rfl, ho, hb2⟩ := hh
    have HO := Lib.hid ho
    have HB2 := Lib.hid hb2
    clear ho hb2 rg
    go_wp2_with fail
    go_ret
    exact ⟨A2, c2, rfl, HO.out, HB2.out⟩

set_option maxRecDepth 100000 in
set_option maxHeartbeats 1600000 in
theorem one_any (A : Option Addr) (n c : Nat) (l : List Gp) (q : Int) (fid : FuncId) (cap : Array Value) (f : List Int → List Int) (w : World) (h : SeesG w A n c l) (hz : n ≤ 65536) (hz2 : ∀ g ∈ l, g.n ≤ 65000)
    (hen : ∀ args wx, (callFunc fid args).run Try.prog wx = .ok (.enter fid args) wx)
    (hf : ∀ g ∈ l, ∀ W, Below w.heap.size w W → okGp W g → Calls Try.prog fid (#[.slice g.A g.n g.c] ++ cap) W (GivesInts W (f g.m))) :
    Calls Try.prog 40 #[.slice A n c, .int .i64 q, .func (.func fid) #[] cap] w (GivesG w (l.map (fun g => (g.no, if g.no = q then f g.m else g.m)))) := by
  have hb0 := (Below.refl w.heap.size w).alloc (Nat.le_refl _) (.cells #[.int .i64 q] 3)
  have c1 : (w.alloc (.cells #[.int .i64 q] 3)).cell? ⟨w.heap.size, 0, none⟩ = some (.int .i64 q) := (Blk.new w [.int .i64 q] 3).cell (j := 0) rfl
  have hb1 := hb0.alloc hb0.size (.cells #[.func (.func fid) #[] cap] 58)
  have c2 : ((w.alloc (.cells #[.int .i64 q] 3)).alloc (.cells #[.func (.func fid) #[] cap] 58)).cell? ⟨w.heap.size, 0, none⟩ = some (.int .i64 q) := ((Below.refl _ (w.alloc (.cells #[.int .i64 q] 3))).alloc (Nat.le_refl _) (.cells #[.func (.func fid) #[] cap] 58)).cell (p := ⟨w.heap.size, 0, none⟩) (by simp) |>.trans c1
  have c3 : ((w.alloc (.cells #[.int .i64 q] 3)).alloc (.cells #[.func (.func fid) #[] cap] 58)).cell? ⟨w.heap.size + 1, 0, none⟩ = some (.func (.func fid) #[] cap) := by
    have hb := (Blk.new (w.alloc (.cells #[.int .i64 q] 3)) [.func (.func fid) #[] cap] 58).cell (j := 0) rfl
    rwa [show (w.alloc (.cells #[.int .i64 q] 3)).heap.size = w.heap.size + 1 by simp] at hb
  have HB1 := Lib.hid hb1
  have HC := Lib.hid (all_any A n c l _ (h.later hb1) hz 64 #[.pointer (some ⟨w.heap.size, 0, none⟩), .pointer (some ⟨w.heap.size + 1, 0, none⟩)] (fun g => if g.no = q then f g.m else g.m) (by intro _ _; simp [go_sem]) (fun g hg W hW ho => one1_any g q w.heap.size (w.heap.size + 1) fid cap f W ho (hz2 g hg) hen ((hW.cell (p := ⟨w.heap.size, 0, none⟩) (by simp; omega)).trans c2) ((hW.cell (p := ⟨w.heap.size + 1, 0, none⟩) (by simp)).trans c3) (fun W' hW' => hf g hg W' (hb1.trans ((hW.trans (hW'.mono hW.size)).mono hb1.size)) (ho.later hW'))))
  clear h hz2 hb0 c1 hb1 c2 c3 hf hen
  go_enter Try.func40, Try.ntmps40
  go_wp2_with fail
  refine HC.out.mono ?_
  intro e w2 hh
  obtain ⟨A2, n2, c2, gs, rfl, hs, hg, hb2⟩ := hh.base HB1.out
  have HS := Lib.hid hs
  have HG := Lib.hid hg
  have HB2 := Lib.hid hb2
  clear hs hg hb2 hh
  go_wp2_with fail
  go_ret
  exact ⟨A2, n2, c2, gs, rfl, HS.out, HG.out, HB2.out⟩
end Go.Proofs.Ytglhgdkghddcaaa
