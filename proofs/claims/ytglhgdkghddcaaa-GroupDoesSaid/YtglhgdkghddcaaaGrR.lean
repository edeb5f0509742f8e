/- Groups: Open and Close of any groups, by the program. -/
import Derived.Test.YtglhgdkghddcaaaGrQ
namespace Go.Proofs.Ytglhgdkghddcaaa
set_option linter.unusedVariables false
set_option linter.unusedSimpArgs false
open Go Go.RowKit IdsM

def gplc (l : List Gp) (g : Int) : Nat := (gnos l).countP (· < g)
theorem gplc_le (l : List Gp) (g : Int) : gplc l g ≤ l.length := by
  unfold gplc
  have := List.countP_le_length (p := fun x => decide (x < g)) (l := gnos l)
  simpa [gnos] using this
def ocode (l : List Gp) (g : Int) : Int := if ¬ (0 ≤ g ∧ g < 16) then 1 else if g ∈ gnos l then 7 else 0
def ores (l : List Gp) (g : Int) : List (Int × List Int) := if ocode l g = 0 then (gabs l).take (gplc l g) ++ (g, []) :: (gabs l).drop (gplc l g) else []
def ccode (l : List Gp) (g : Int) : Int := if ¬ (0 ≤ g ∧ g < 16) then 1 else if g ∉ gnos l then 6 else 0
def cres (l : List Gp) (g : Int) : List (Int × List Int) := if ccode l g = 0 then (gabs l).take (gplc l g) ++ (gabs l).drop (gplc l g + 1) else []
theorem oc_arg {l : List Gp} {g : Int} (h : ¬ (0 ≤ g ∧ g < 16)) : (ocode l g = 1 ∧ ores l g = []) ∧ (ccode l g = 1 ∧ cres l g = []) := by
  have e : ocode l g = 1 := if_pos h
  have f : ccode l g = 1 := if_pos h
  exact ⟨⟨e, by unfold ores; rw [e]; rfl⟩, ⟨f, by unfold cres; rw [f]; rfl⟩⟩
theorem oc_in {l : List Gp} {g : Int} (h : 0 ≤ g ∧ g < 16) (hm : g ∈ gnos l) : (ocode l g = 7 ∧ ores l g = []) ∧ (ccode l g = 0 ∧ cres l g = (gabs l).take (gplc l g) ++ (gabs l).drop (gplc l g + 1)) := by
  have e : ocode l g = 7 := by unfold ocode; rw [if_neg (fun x => x h), if_pos hm]
  have f : ccode l g = 0 := by unfold ccode; rw [if_neg (fun x => x h), if_neg (fun x => x hm)]
  exact ⟨⟨e, by unfold ores; rw [e]; rfl⟩, ⟨f, by unfold cres; rw [f]; rfl⟩⟩
theorem oc_out {l : List Gp} {g : Int} (h : 0 ≤ g ∧ g < 16) (hm : g ∉ gnos l) : (ocode l g = 0 ∧ ores l g = (gabs l).take (gplc l g) ++ (g, []) :: (gabs l).drop (gplc l g)) ∧ (ccode l g = 6 ∧ cres l g = []) := by
  have e : ocode l g = 0 := by unfold ocode; rw [if_neg (fun x => x h), if_neg hm]
  have f : ccode l g = 6 := by unfold ccode; rw [if_neg (fun x => x h), if_pos hm]
  exact ⟨⟨e, by unfold ores; rw [e]; rfl⟩, ⟨f, by unfold cres; rw [f]; rfl⟩⟩
theorem gabs_ins (gs : List Gp) (k : Nat) (x : Gp) : gabs (gs.take k ++ x :: gs.drop k) = (gabs gs).take k ++ gab x :: (gabs gs).drop k := by simp [gabs, List.map_take, List.map_drop]
theorem gabs_del (gs : List Gp) (k : Nat) : gabs (gs.take k ++ gs.drop (k + 1)) = (gabs gs).take k ++ (gabs gs).drop (k + 1) := by simp [gabs, List.map_take, List.map_drop]
def xg (g : Int) : Gp := ⟨g, none, 0, 0, []⟩
theorem xg_ok (g : Int) (w : World) : okGp w (xg g) := ⟨rfl, Nat.le_refl _, by simp [xg, maxLen], Sees.nil_⟩
theorem below_own {w w' : World} {r : Option Nat} {B : Nat} (h : w.grownBy w' r) (hB : B ≤ w.heap.size) (hr : ∀ k, r = some k → B ≤ k) : Below B w w' :=
  ⟨h.os, h.tape, h.output, h.size, fun k hk => h.block k (by omega) (fun e => by have := hr k e.symm; omega)⟩
theorem keepo_any (A : Option Addr) (n c : Nat) (l : List Gp) (w : World) (h : SeesG w A n c l) (hz : n ≤ 65536) (hz2 : ∀ g ∈ l, g.n ≤ 65536) :
    Calls Try.prog 35 #[.slice A n c, .func (.func 36) #[] #[]] w (GivesO w (gabs l)) :=
  allo_any A n c l w h hz 36 #[] (fun g => g.m) (by intro _ _; simp [go_sem]) (fun g hg W hW ho => keepi_any g W ho (hz2 g hg))
/-- What Open makes of a row of groups of the call's own. -/
theorem open_fin {w w2 w4 : World} {A A' : Option Addr} {n c c' k : Nat} {g : Int} {gs : List Gp} {B : Nat} (hr : w2.ownsRow B 41 2 (.slice A n c) n (rws gpc gs)) (hn : gs.length = n) (hk : k ≤ n) (ho : ∀ x ∈ gs, OkO w2 B (.slice A n c) x) (hB : w.heap.size ≤ B) (hb : Below w.heap.size w w2)
    (hr' : w4.ownsRow B 41 2 (.slice A' (n + 1) c') (n + 1) (rws gpc (gs.take k ++ xg g :: gs.drop k))) (hg : (w2.alloc (.cells #[.int .i64 g, .slice none 0 0] 41)).grownBy w4 (Value.slice A n c).ownBlock)
    (hat : (Value.slice A' (n + 1) c').ownBlock = (Value.slice A n c).ownBlock ∨ (Value.slice A' (n + 1) c').ownBlock = some (w2.alloc (.cells #[.int .i64 g, .slice none 0 0] 41)).heap.size) :
    SeesG w4 A' (n + 1) c' (gs.take k ++ xg g :: gs.drop k) ∧ gabs (gs.take k ++ xg g :: gs.drop k) = (gabs gs).take k ++ (g, []) :: (gabs gs).drop k ∧ Below w.heap.size w w4 := by
  have hl := (Below.refl w2.heap.size w2).alloc (Nat.le_refl _) (.cells #[.int .i64 g, .slice none 0 0] 41)
  have hc := row_cap hr'
  refine ⟨⟨by simp only [List.length_append, List.length_take, List.length_cons, List.length_drop]; omega, hc.1, hc.2, row_sees hr', fun x hx => ?_⟩, gabs_ins gs k (xg g), ?_⟩
  · rw [List.mem_append, List.mem_cons] at hx
    have h1 : ∀ x ∈ gs, okGp w4 x := fun x hx => (((ho x hx).later hl).grown hg hat).okGp
    rcases hx with hx | rfl | hx
    · exact h1 x (List.mem_of_mem_take hx)
    · exact xg_ok g w4
    · exact h1 x (List.mem_of_mem_drop hx)
  · have h2 := below_own hg (B := w.heap.size) (Nat.le_trans hb.size hl.size) (fun j e => Nat.le_trans hB (World.ownsRow.lt hr j e).1)
    exact (hb.trans (hl.mono hb.size)).trans h2

set_option maxRecDepth 100000 in
set_option maxHeartbeats 1600000 in
theorem open_any (A : Option Addr) (n c : Nat) (l : List Gp) (g : Int) (w : World) (h : SeesG w A n c l) (hz : n ≤ 65535) (hz2 : ∀ g ∈ l, g.n ≤ 65536) (hup : Up (gnos l)) :
    Calls Try.prog 10 #[.slice A n c, .int .i64 g] w (GivesGE w (ores l g) (ocode l g)) := by
  have HG := Lib.hid (grp_any g w)
  by_cases h0 : 0 ≤ g ∧ g < 16
  · rw [decide_eq_true h0] at HG
    have HP := Lib.hid (gplace_any A n c l g w h (by omega) hup)
    by_cases hm : g ∈ gnos l
    · rw [decide_eq_true hm] at HP
      obtain ⟨⟨e1, e2⟩, _⟩ := oc_in h0 hm
      rw [e1, e2]
      generalize (gnos l).countP (· < g) = p at HP
      clear h hup h0 hm e1 e2
      go_enter Try.func10, Try.ntmps10
      go_wp2_with fail
      refine HG.out.mono ?_
      rintro e w2 ⟨rfl, rfl⟩
      go_wp2_with fail
      refine (HP.out).mono ?_
      rintro e w3 ⟨rfl, hb3⟩
      have HB3 := Lib.hid (hb3)
      clear hb3
      go_wp2_with fail
      go_ret2
      exact ⟨none, 0, 0, [], rfl, SeesG.nil_ _, rfl, HB3.out⟩
    · rw [decide_eq_false hm] at HP
      obtain ⟨⟨e1, e2⟩, _⟩ := oc_out h0 hm
      rw [e1, e2]
      have hpk := gplc_le l g
      have hln := h.len
      unfold gplc at hpk ⊢
      have HAL := Lib.hid (fun W (hW : Below w.heap.size w W) => keepo_any A n c l W (h.later hW) (by omega) hz2)
      generalize (gnos l).countP (· < g) = p at HP hpk ⊢
      clear h hup h0 hm e1 e2
      go_enter Try.func10, Try.ntmps10
      go_wp2_with fail
      refine HG.out.mono ?_
      rintro e w2 ⟨rfl, rfl⟩
      go_wp2_with fail
      refine (HP.out).mono ?_
      rintro e w3 ⟨rfl, hb3⟩
      have HB3 := Lib.hid (hb3)
      clear hb3
      go_wp2_with fail
      refine (HAL.out _ HB3.out).mono ?_
      rintro e w4 ⟨A4, n4, c4, gs, rfl, hr, hn4, ho, hg, hb⟩
      have en : n4 = n := by rw [← hn4, ← gabs_len, hg, gabs_len, hln]
      subst en
      have hlt := fun j e => (World.ownsRow.lt hr j e).2
      have HI := Lib.hid (insert_any w3.heap.size A4 n4 c4 p gs w4.heap.size (xg g) 41 (w4.alloc (.cells #[.int .i64 g, .slice none 0 0] 41)) (row_later hr ((Below.refl w4.heap.size w4).alloc (Nat.le_refl _) _)) hn4 (by omega) (by omega) (BT.new w4 (gpc (xg g)) 41) (fun e => by have := hlt _ e; omega) (by have := hb.size; simp; omega) _ rfl)
      have HF := Lib.hid (fun w5 A' c' h1 h2 h3 => open_fin (w := w) (w2 := w4) (w4 := w5) (A := A4) (A' := A') (n := n4) (c := c4) (c' := c') (k := p) (g := g) (gs := gs) (B := w3.heap.size) hr hn4 (by omega) ho HB3.out.size (HB3.out.trans (hb.mono HB3.out.size)) h1 h2 h3)
      have HGS := Lib.hid hg
      clear hr ho hg hb hlt hn4 HAL hpk hln
      go_wp2_with fail
      refine HI.out.mono ?_
      rintro e w5 ⟨A5, c5, rfl, hr5, hg5, hat5⟩
      obtain ⟨f1, f2, f3⟩ := HF.out w5 A5 c5 hr5 hg5 hat5
      rw [HGS.out] at f2
      have F1 := Lib.hid f1
      have F2 := Lib.hid f2
      have F3 := Lib.hid f3
      clear f1 f2 f3 hr5 hg5 hat5 HF HI HGS
      go_wp2_with fail
      go_ret2
      exact ⟨A5, n4 + 1, c5, _, rfl, F1.out, F2.out, F3.out⟩
  · rw [decide_eq_false h0] at HG
    obtain ⟨⟨e1, e2⟩, _⟩ := oc_arg (l := l) h0
    rw [e1, e2]
    have HB0 := Lib.hid (Below.refl w.heap.size w)
    clear h hup h0 e1 e2
    go_enter Try.func10, Try.ntmps10
    go_wp2_with fail
    refine HG.out.mono ?_
    rintro e w2 ⟨rfl, rfl⟩
    go_wp2_with fail
    go_ret2
    exact ⟨none, 0, 0, [], rfl, SeesG.nil_ _, rfl, HB0.out⟩

set_option maxRecDepth 100000 in
set_option maxHeartbeats 1600000 in
theorem close_any (A : Option Addr) (n c : Nat) (l : List Gp) (g : Int) (w : World) (h : SeesG w A n c l) (hz : n ≤ 65536) (hz2 : ∀ g ∈ l, g.n ≤ 65536) (hup : Up (gnos l)) :
    Calls Try.prog 13 #[.slice A n c, .int .i64 g] w (GivesGE w (cres l g) (ccode l g)) := by
  have HG := Lib.hid (grp_any g w)
  by_cases h0 : 0 ≤ g ∧ g < 16
  · rw [decide_eq_true h0] at HG
    have HP := Lib.hid (gplace_any A n c l g w h (by omega) hup)
    by_cases hm : g ∈ gnos l
    · rw [decide_eq_true hm] at HP
      obtain ⟨_, ⟨e1, e2⟩⟩ := oc_in h0 hm
      rw [e1, e2]
      have hpk : (gnos l).countP (· < g) < l.length := by
        obtain ⟨h1, _⟩ := gmem_up hup g hm
        exact h1
      have hln := h.len
      unfold gplc
      have HAL := Lib.hid (fun W (hW : Below w.heap.size w W) => keepo_any A n c l W (h.later hW) (by omega) hz2)
      generalize (gnos l).countP (· < g) = p at HP hpk ⊢
      clear h hup h0 hm e1 e2
      go_enter Try.func13, Try.ntmps13
      go_wp2_with fail
      refine HG.out.mono ?_
      rintro e w2 ⟨rfl, rfl⟩
      go_wp2_with fail
      refine (HP.out).mono ?_
      rintro e w3 ⟨rfl, hb3⟩
      have HB3 := Lib.hid (hb3)
      clear hb3
      go_wp2_with fail
      refine (HAL.out _ HB3.out).mono ?_
      rintro e w4 ⟨A4, n4, c4, gs, rfl, hr, hn4, ho, hg, hb⟩
      have en : n4 = n := by rw [← hn4, ← gabs_len, hg, gabs_len, hln]
      subst en
      have hpn : p < n4 := by omega
      have HD := Lib.hid (del_grow w4 w3.heap.size n4 c4 p A4 gs hn4 hpn hz hr)
      have HB4 := Lib.hid (HB3.out.trans (hb.mono HB3.out.size))
      have HFIN : Hid (∀ w5, w5.ownsRow w3.heap.size 41 2 (.slice A4 (n4 - 1) c4) (n4 - 1) (rws gpc (gs.take p ++ gs.drop (p + 1))) → w4.grownBy w5 (Value.slice A4 n4 c4).ownBlock → SeesG w5 A4 (n4 - 1) c4 (gs.take p ++ gs.drop (p + 1)) ∧ Below w.heap.size w w5) := Lib.hid (fun w5 hr5 hg5 => by
        have hc := row_cap hr5
        have h1 : ∀ x ∈ gs, okGp w5 x := fun x hx => ((ho x hx).grown (r' := .slice A4 n4 c4) hg5 (.inl rfl)).okGp
        refine ⟨⟨by simp only [List.length_append, List.length_take, List.length_drop]; omega, hc.1, hc.2, row_sees hr5, fun x hx => ?_⟩, ?_⟩
        · rw [List.mem_append] at hx
          rcases hx with hx | hx
          · exact h1 x (List.mem_of_mem_take hx)
          · exact h1 x (List.mem_of_mem_drop hx)
        · exact HB4.out.trans (below_own hg5 (B := w.heap.size) HB4.out.size (fun j e => Nat.le_trans HB3.out.size (World.ownsRow.lt hr j e).1)))
      have HGS := Lib.hid hg
      clear hr ho hg hb hn4 HAL hpk hln
      go_wp2_with fail
      refine HD.out.mono ?_
      rintro e w5 ⟨rfl, hr5, hg5⟩
      obtain ⟨f1, f3⟩ := HFIN.out w5 hr5 hg5
      have f2 := gabs_del gs p
      rw [HGS.out] at f2
      have F1 := Lib.hid f1
      have F2 := Lib.hid f2
      have F3 := Lib.hid f3
      clear f1 f2 f3 hr5 hg5 HFIN HD HGS
      go_wp2_with fail
      go_ret2
      exact ⟨A4, n4 - 1, c4, _, rfl, F1.out, F2.out, F3.out⟩
    · rw [decide_eq_false hm] at HP
      obtain ⟨_, ⟨e1, e2⟩⟩ := oc_out h0 hm
      rw [e1, e2]
      generalize (gnos l).countP (· < g) = p at HP
      clear h hup h0 hm e1 e2
      go_enter Try.func13, Try.ntmps13
      go_wp2_with fail
      refine HG.out.mono ?_
      rintro e w2 ⟨rfl, rfl⟩
      go_wp2_with fail
      refine (HP.out).mono ?_
      rintro e w3 ⟨rfl, hb3⟩
      have HB3 := Lib.hid (hb3)
      clear hb3
      go_wp2_with fail
      go_ret2
      exact ⟨none, 0, 0, [], rfl, SeesG.nil_ _, rfl, HB3.out⟩
  · rw [decide_eq_false h0] at HG
    obtain ⟨_, ⟨e1, e2⟩⟩ := oc_arg (l := l) h0
    rw [e1, e2]
    have HB0 := Lib.hid (Below.refl w.heap.size w)
    clear h hup h0 e1 e2
    go_enter Try.func13, Try.ntmps13
    go_wp2_with fail
    refine HG.out.mono ?_
    rintro e w2 ⟨rfl, rfl⟩
    go_wp2_with fail
    go_ret2
    exact ⟨none, 0, 0, [], rfl, SeesG.nil_ _, rfl, HB0.out⟩
end Go.Proofs.Ytglhgdkghddcaaa
