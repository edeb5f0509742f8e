/- Groups: Join and Quit, by the program. -/
import Derived.Test.YtglhgdkghddcaaaGrG
namespace Go.Proofs.Ytglhgdkghddcaaa
set_option linter.unusedVariables false
set_option linter.unusedSimpArgs false
open Go Go.RowKit IdsM

/-- Groups, or why not, as an answer. -/
def GivesGE (w : World) (l' : List (Int × List Int)) (err : Int) (e : Ending) (w' : World) : Prop := ∃ A n c gs, e = .returned (.tuple #[.slice A n c, .int .i64 err]) ∧ SeesG w' A n c gs ∧ gabs gs = l' ∧ Below w.heap.size w w'
theorem SeesG.nil_ (w : World) : SeesG w none 0 0 [] := ⟨rfl, Nat.le_refl _, by simp [maxLen], Sees.nil_, by simp⟩
def jcode (l : List Gp) (g id : Int) : Int := if acode l g id ≠ 0 then acode l g id else if ais l g id = true then 7 else 0
def qcode (l : List Gp) (g id : Int) : Int := if acode l g id ≠ 0 then acode l g id else if ais l g id = true then 0 else 6
def chg1 (l : List Gp) (g : Int) (f : List Int → List Int) : List (Int × List Int) := l.map (fun x => (x.no, if x.no = g then f x.m else x.m))
def jres (l : List Gp) (g id : Int) : List (Int × List Int) := if jcode l g id = 0 then chg1 l g (fun m => put m id) else []
def qres (l : List Gp) (g id : Int) : List (Int × List Int) := if qcode l g id = 0 then chg1 l g (fun m => drop m id) else []

set_option maxRecDepth 100000 in
set_option maxHeartbeats 1600000 in
theorem join1_any (A : Option Addr) (n c : Nat) (m : List Int) (id : Int) (B : Nat) (w : World) (hn : m.length = n) (hnc : n ≤ c) (hcm : c ≤ maxLen) (hs : Sees w w.heap.size A (ivs m)) (hz : n ≤ 65000) (hB : w.cell? ⟨B, 0, none⟩ = some (.int .i64 id)) :
    Calls Try.prog 41 (#[.slice A n c] ++ #[.pointer (some ⟨B, 0, none⟩)]) w (GivesInts w (put m id)) := by
  have HC := Lib.hid (put_any A n c m id w hn hnc hcm hs hz)
  show Calls Try.prog 41 #[.slice A n c, .pointer (some ⟨B, 0, none⟩)] w _
  clear hn hs
  go_enter Try.func41, Try.ntmps41
  go_wp2_with fail
  refine HC.out.mono ?_
  intro e w2 hh
  obtain ⟨A2, c2, rfl, ho, hb2⟩ := hh
  have HO := Lib.hid ho
  have HB2 := Lib.hid hb2
  clear ho hb2
  go_wp2_with fail
  go_ret
  exact ⟨A2, c2, rfl, HO.out, HB2.out⟩

set_option maxRecDepth 100000 in
set_option maxHeartbeats 1600000 in
theorem join_any (A : Option Addr) (n c : Nat) (l : List Gp) (g id : Int) (w : World) (h : SeesG w A n c l) (hz : n ≤ 65536) (hz2 : ∀ g ∈ l, g.n ≤ 65000) (hok : GOk l) :
    Calls Try.prog 15 #[.slice A n c, .int .i64 g, .int .i64 id] w (GivesGE w (jres l g id) (jcode l g id)) := by
  have hb0 := (Below.refl w.heap.size w).alloc (Nat.le_refl _) (.cells #[.int .i64 id] 3)
  have hc0 : (w.alloc (.cells #[.int .i64 id] 3)).cell? ⟨w.heap.size, 0, none⟩ = some (.int .i64 id) := (Blk.new w [.int .i64 id] 3).cell (j := 0) rfl
  have HB0 := Lib.hid hb0
  have HA := Lib.hid (ask_any A n c l g id _ (h.later hb0) hz hz2 hok)
  have HO1 : Hid (∀ W, Below (w.alloc (.cells #[.int .i64 id] 3)).heap.size (w.alloc (.cells #[.int .i64 id] 3)) W → Calls Try.prog 40 #[.slice A n c, .int .i64 g, .func (.func 41) #[] #[.pointer (some ⟨w.heap.size, 0, none⟩)]] W (GivesG W (chg1 l g (fun m => put m id)))) := Lib.hid (fun W hW =>
    one_any A n c l g 41 #[.pointer (some ⟨w.heap.size, 0, none⟩)] (fun m => put m id) W ((h.later hb0).later hW) hz hz2 (by intro _ _; simp [go_sem]) (fun x hx W' hW' ho =>
      join1_any _ _ _ _ id w.heap.size W' ho.len ho.cap ho.max ho.see (hz2 x hx) (((hW.trans (hW'.mono hW.size)).cell (p := ⟨w.heap.size, 0, none⟩) (by simp)).trans hc0)))
  have HJ0 : Hid (acode l g id ≠ 0 → jcode l g id = acode l g id ∧ jres l g id = []) := Lib.hid (fun e => by
    have e1 : jcode l g id = acode l g id := if_pos e
    exact ⟨e1, by unfold jres; rw [e1, if_neg e]⟩)
  have HJ1 : Hid (acode l g id = 0 → ais l g id = true → jcode l g id = 7 ∧ jres l g id = []) := Lib.hid (fun e f => by
    have e1 : jcode l g id = 7 := by unfold jcode; rw [if_neg (fun x => x e), f]; rfl
    exact ⟨e1, by unfold jres; rw [e1]; rfl⟩)
  have HJ2 : Hid (acode l g id = 0 → ais l g id = false → jcode l g id = 0 ∧ jres l g id = chg1 l g (fun m => put m id)) := Lib.hid (fun e f => by
    have e1 : jcode l g id = 0 := by unfold jcode; rw [if_neg (fun x => x e), f]; rfl
    exact ⟨e1, by unfold jres; rw [e1]; rfl⟩)
  generalize chg1 l g (fun m => put m id) = res at HO1 HJ2
  generalize acode l g id = ac at HA HJ0 HJ1 HJ2
  generalize ais l g id = is at HA HJ1 HJ2
  generalize jcode l g id = code at HJ0 HJ1 HJ2 ⊢
  generalize jres l g id = out at HJ0 HJ1 HJ2 ⊢
  clear h hz2 hok hb0
  by_cases h1 : ac = 0
  · subst h1
    cases is with
    | true =>
      obtain ⟨e1, e2⟩ := HJ1.out rfl rfl
      subst e1 e2
      clear HJ0 HJ1 HJ2 HO1
      go_enter Try.func15, Try.ntmps15
      go_wp2_with fail
      refine HA.out.mono ?_
      rintro e w2 ⟨rfl, hb2⟩
      have HB2 := Lib.hid (HB0.out.trans (hb2.mono HB0.out.size))
      clear hb2 hc0
      go_wp2_with fail
      go_ret2
      exact ⟨none, 0, 0, [], rfl, SeesG.nil_ _, rfl, HB2.out⟩
    | false =>
      obtain ⟨e1, e2⟩ := HJ2.out rfl rfl
      subst e1 e2
      clear HJ0 HJ1 HJ2
      go_enter Try.func15, Try.ntmps15
      go_wp2_with fail
      refine HA.out.mono ?_
      rintro e w2 ⟨rfl, hb2⟩
      have HO2 := Lib.hid (HO1.out w2 hb2)
      have HB2 := Lib.hid (HB0.out.trans (hb2.mono HB0.out.size))
      clear hb2 hc0 HO1
      go_wp2_with fail
      refine HO2.out.mono ?_
      intro e w3 hh
      obtain ⟨A3, n3, c3, gs, rfl, hs, hg, hb3⟩ := hh.base HB2.out
      have HS := Lib.hid hs
      have HG := Lib.hid hg
      have HB3 := Lib.hid hb3
      clear hs hg hb3 hh
      go_wp2_with fail
      go_ret2
      exact ⟨A3, n3, c3, gs, rfl, HS.out, HG.out, HB3.out⟩
  · obtain ⟨e1, e2⟩ := HJ0.out h1
    subst e1 e2
    have b1 : (code == 0) = false := by simpa using h1
    have b2 : (code != 0) = true := by simpa using h1
    clear HJ0 HJ1 HJ2 HO1 h1
    go_enter Try.func15, Try.ntmps15
    go_wp2_with fail
    refine HA.out.mono ?_
    rintro e w2 ⟨rfl, hb2⟩
    have HB2 := Lib.hid (HB0.out.trans (hb2.mono HB0.out.size))
    clear hb2 hc0
    go_wp2_with fail
    go_ret2
    exact ⟨none, 0, 0, [], rfl, SeesG.nil_ _, rfl, HB2.out⟩

set_option maxRecDepth 100000 in
set_option maxHeartbeats 1600000 in
theorem quit1_any (A : Option Addr) (n c : Nat) (m : List Int) (id : Int) (B : Nat) (w : World) (hn : m.length = n) (hnc : n ≤ c) (hcm : c ≤ maxLen) (hs : Sees w w.heap.size A (ivs m)) (hz : n ≤ 65000) (hB : w.cell? ⟨B, 0, none⟩ = some (.int .i64 id)) :
    Calls Try.prog 46 (#[.slice A n c] ++ #[.pointer (some ⟨B, 0, none⟩)]) w (GivesInts w (drop m id)) := by
  have HC := Lib.hid (drop_any A n c m id w hn hnc hcm hs hz)
  show Calls Try.prog 46 #[.slice A n c, .pointer (some ⟨B, 0, none⟩)] w _
  clear hn hs
  go_enter Try.func46, Try.ntmps46
  go_wp2_with fail
  refine HC.out.mono ?_
  intro e w2 hh
  obtain ⟨A2, c2, rfl, ho, hb2⟩ := hh
  have HO := Lib.hid ho
  have HB2 := Lib.hid hb2
  clear ho hb2
  go_wp2_with fail
  go_ret
  exact ⟨A2, c2, rfl, HO.out, HB2.out⟩

set_option maxRecDepth 100000 in
set_option maxHeartbeats 1600000 in
theorem quit_any (A : Option Addr) (n c : Nat) (l : List Gp) (g id : Int) (w : World) (h : SeesG w A n c l) (hz : n ≤ 65536) (hz2 : ∀ g ∈ l, g.n ≤ 65000) (hok : GOk l) :
    Calls Try.prog 17 #[.slice A n c, .int .i64 g, .int .i64 id] w (GivesGE w (qres l g id) (qcode l g id)) := by
  have hb0 := (Below.refl w.heap.size w).alloc (Nat.le_refl _) (.cells #[.int .i64 id] 3)
  have hc0 : (w.alloc (.cells #[.int .i64 id] 3)).cell? ⟨w.heap.size, 0, none⟩ = some (.int .i64 id) := (Blk.new w [.int .i64 id] 3).cell (j := 0) rfl
  have HB0 := Lib.hid hb0
  have HA := Lib.hid (ask_any A n c l g id _ (h.later hb0) hz hz2 hok)
  have HO1 : Hid (∀ W, Below (w.alloc (.cells #[.int .i64 id] 3)).heap.size (w.alloc (.cells #[.int .i64 id] 3)) W → Calls Try.prog 40 #[.slice A n c, .int .i64 g, .func (.func 46) #[] #[.pointer (some ⟨w.heap.size, 0, none⟩)]] W (GivesG W (chg1 l g (fun m => drop m id)))) := Lib.hid (fun W hW =>
    one_any A n c l g 46 #[.pointer (some ⟨w.heap.size, 0, none⟩)] (fun m => drop m id) W ((h.later hb0).later hW) hz hz2 (by intro _ _; simp [go_sem]) (fun x hx W' hW' ho =>
      quit1_any _ _ _ _ id w.heap.size W' ho.len ho.cap ho.max ho.see (hz2 x hx) (((hW.trans (hW'.mono hW.size)).cell (p := ⟨w.heap.size, 0, none⟩) (by simp)).trans hc0)))
  have HJ0 : Hid (acode l g id ≠ 0 → qcode l g id = acode l g id ∧ qres l g id = []) := Lib.hid (fun e => by
    have e1 : qcode l g id = acode l g id := if_pos e
    exact ⟨e1, by unfold qres; rw [e1, if_neg e]⟩)
  have HJ1 : Hid (acode l g id = 0 → ais l g id = false → qcode l g id = 6 ∧ qres l g id = []) := Lib.hid (fun e f => by
    have e1 : qcode l g id = 6 := by unfold qcode; rw [if_neg (fun x => x e), f]; rfl
    exact ⟨e1, by unfold qres; rw [e1]; rfl⟩)
  have HJ2 : Hid (acode l g id = 0 → ais l g id = true → qcode l g id = 0 ∧ qres l g id = chg1 l g (fun m => drop m id)) := Lib.hid (fun e f => by
    have e1 : qcode l g id = 0 := by unfold qcode; rw [if_neg (fun x => x e), f]; rfl
    exact ⟨e1, by unfold qres; rw [e1]; rfl⟩)
  generalize chg1 l g (fun m => drop m id) = res at HO1 HJ2
  generalize acode l g id = ac at HA HJ0 HJ1 HJ2
  generalize ais l g id = is at HA HJ1 HJ2
  generalize qcode l g id = code at HJ0 HJ1 HJ2 ⊢
  generalize qres l g id = out at HJ0 HJ1 HJ2 ⊢
  clear h hz2 hok hb0
  by_cases h1 : ac = 0
  · subst h1
    cases is with
    | false =>
      obtain ⟨e1, e2⟩ := HJ1.out rfl rfl
      subst e1 e2
      clear HJ0 HJ1 HJ2 HO1
      go_enter Try.func17, Try.ntmps17
      go_wp2_with fail
      refine HA.out.mono ?_
      rintro e w2 ⟨rfl, hb2⟩
      have HB2 := Lib.hid (HB0.out.trans (hb2.mono HB0.out.size))
      clear hb2 hc0
      go_wp2_with fail
      go_ret2
      exact ⟨none, 0, 0, [], rfl, SeesG.nil_ _, rfl, HB2.out⟩
    | true =>
      obtain ⟨e1, e2⟩ := HJ2.out rfl rfl
      subst e1 e2
      clear HJ0 HJ1 HJ2
      go_enter Try.func17, Try.ntmps17
      go_wp2_with fail
      refine HA.out.mono ?_
      rintro e w2 ⟨rfl, hb2⟩
      have HO2 := Lib.hid (HO1.out w2 hb2)
      have HB2 := Lib.hid (HB0.out.trans (hb2.mono HB0.out.size))
      clear hb2 hc0 HO1
      go_wp2_with fail
      refine HO2.out.mono ?_
      intro e w3 hh
      obtain ⟨A3, n3, c3, gs, rfl, hs, hg, hb3⟩ := hh.base HB2.out
      have HS := Lib.hid hs
      have HG := Lib.hid hg
      have HB3 := Lib.hid hb3
      clear hs hg hb3 hh
      go_wp2_with fail
      go_ret2
      exact ⟨A3, n3, c3, gs, rfl, HS.out, HG.out, HB3.out⟩
  · obtain ⟨e1, e2⟩ := HJ0.out h1
    subst e1 e2
    have b1 : (code == 0) = false := by simpa using h1
    have b2 : (code != 0) = true := by simpa using h1
    clear HJ0 HJ1 HJ2 HO1 h1
    go_enter Try.func17, Try.ntmps17
    go_wp2_with fail
    refine HA.out.mono ?_
    rintro e w2 ⟨rfl, hb2⟩
    have HB2 := Lib.hid (HB0.out.trans (hb2.mono HB0.out.size))
    clear hb2 hc0
    go_wp2_with fail
    go_ret2
    exact ⟨none, 0, 0, [], rfl, SeesG.nil_ _, rfl, HB2.out⟩
end Go.Proofs.Ytglhgdkghddcaaa
