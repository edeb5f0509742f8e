/- Groups: Leave, by the program; what keeps a group's members. -/
import Derived.Test.YtglhgdkghddcaaaGrE
namespace Go.Proofs.Ytglhgdkghddcaaa
set_option linter.unusedVariables false
set_option linter.unusedSimpArgs false
open Go Go.RowKit IdsM

theorem GivesInts.base {w W1 w2 : World} {l : List Int} {e : Ending} (h : GivesInts W1 l e w2) (hb : Below w.heap.size w W1) : GivesInts w l e w2 := by
  obtain ⟨A, c, rfl, ho, hb2⟩ := h
  exact ⟨A, c, rfl, Own.lower ho hb.size, hb.trans (hb2.mono hb.size)⟩
theorem GivesG.base {w W1 w2 : World} {l : List (Int × List Int)} {e : Ending} (h : GivesG W1 l e w2) (hb : Below w.heap.size w W1) : GivesG w l e w2 := by
  obtain ⟨A, n, c, gs, rfl, hs, hg, hb2⟩ := h
  exact ⟨A, n, c, gs, rfl, hs, hg, hb.trans (hb2.mono hb.size)⟩

set_option maxRecDepth 100000 in
set_option maxHeartbeats 1600000 in
theorem keepi_any (g : Gp) (w : World) (h : okGp w g) (hz : g.n ≤ 65536) : Calls Try.prog 36 #[.agg #[.int .i64 g.no, .slice g.A g.n g.c]] w (GivesInts w g.m) := by
  have hb0 := (Below.refl w.heap.size w).alloc (Nat.le_refl _) (.cells #[.int .i64 g.no, .slice g.A g.n g.c] 41)
  have HB0 := Lib.hid hb0
  have HC := Lib.hid (clone_any g.A g.n g.c g.m _ (h.later hb0).len (h.later hb0).see hz)
  obtain ⟨x, A, n, c, m⟩ := g
  dsimp only at *
  clear hb0 h
  go_enter Try.func36, Try.ntmps36
  go_wp2_with fail
  refine HC.out.mono ?_
  intro e w2 hh
  have hh := hh.base HB0.out
  obtain ⟨A2, c2, rfl, ho, hb2⟩ := hh
  have HO := Lib.hid ho
  have HB2 := Lib.hid hb2
  clear ho hb2
  go_wp2_with fail
  go_ret
  exact ⟨A2, c2, rfl, HO.out, HB2.out⟩

set_option maxRecDepth 100000 in
set_option maxHeartbeats 1600000 in
theorem leave1_any (g : Gp) (id : Int) (B : Nat) (w : World) (h : okGp w g) (hz : g.n ≤ 65000) (hB : w.cell? ⟨B, 0, none⟩ = some (.int .i64 id)) :
    Calls Try.prog 54 (#[.agg #[.int .i64 g.no, .slice g.A g.n g.c]] ++ #[.pointer (some ⟨B, 0, none⟩)]) w (GivesInts w (drop g.m id)) := by
  have hb0 := (Below.refl w.heap.size w).alloc (Nat.le_refl _) (.cells #[.int .i64 g.no, .slice g.A g.n g.c] 41)
  have HB0 := Lib.hid hb0
  have hBx : B < w.heap.size := World.block_lt_of_cell? _ ⟨B, 0, none⟩ hB
  have kc := (hb0.cell (p := ⟨B, 0, none⟩) hBx).trans hB
  have h1 := h.later hb0
  have HC := Lib.hid (drop_any g.A g.n g.c g.m id _ h1.len h1.cap h1.max h1.see hz)
  obtain ⟨x, A, n, c, m⟩ := g
  dsimp only at *
  show Calls Try.prog 54 #[.agg #[.int .i64 x, .slice A n c], .pointer (some ⟨B, 0, none⟩)] w _
  clear hb0 h h1 hB hBx
  go_enter Try.func54, Try.ntmps54
  go_wp2_with fail
  refine HC.out.mono ?_
  intro e w2 hh
  have hh := hh.base HB0.out
  obtain ⟨A2, c2, rfl, ho, hb2⟩ := hh
  have HO := Lib.hid ho
  have HB2 := Lib.hid hb2
  clear ho hb2
  go_wp2_with fail
  go_ret
  exact ⟨A2, c2, rfl, HO.out, HB2.out⟩

set_option maxRecDepth 100000 in
set_option maxHeartbeats 1600000 in
theorem leave_any (A : Option Addr) (n c : Nat) (l : List Gp) (id : Int) (w : World) (h : SeesG w A n c l) (hz : n ≤ 65536) (hz2 : ∀ g ∈ l, g.n ≤ 65000) :
    Calls Try.prog 25 #[.slice A n c, .int .i64 id] w (GivesG w (l.map (fun g => (g.no, drop g.m id)))) := by
  have hb0 := (Below.refl w.heap.size w).alloc (Nat.le_refl _) (.cells #[.int .i64 id] 3)
  have HB0 := Lib.hid hb0
  have hc0 : (w.alloc (.cells #[.int .i64 id] 3)).cell? ⟨w.heap.size, 0, none⟩ = some (.int .i64 id) := (Blk.new w [.int .i64 id] 3).cell (j := 0) rfl
  have HC := Lib.hid (all_any A n c l _ (h.later hb0) hz 54 #[.pointer (some ⟨w.heap.size, 0, none⟩)] (fun g => drop g.m id) (by intro _ _; simp [go_sem]) (fun g hg W hW ho => leave1_any g id w.heap.size W ho (hz2 g hg) ((hW.cell (p := ⟨w.heap.size, 0, none⟩) (by simp)).trans hc0)))
  clear h hz2 hb0 hc0
  go_enter Try.func25, Try.ntmps25
  go_wp2_with fail
  refine HC.out.mono ?_
  intro e w2 hh
  obtain ⟨A2, n2, c2, gs, rfl, hs, hg, hb2⟩ := hh.base HB0.out
  have HS := Lib.hid hs
  have HG := Lib.hid hg
  have HB2 := Lib.hid hb2
  clear hs hg hb2 hh
  go_wp2_with fail
  go_ret
  exact ⟨A2, n2, c2, gs, rfl, HS.out, HG.out, HB2.out⟩
theorem leave_eq {l : List Gp} (h : GOk l) (id : Int) : l.map (fun g => (g.no, drop g.m id)) = l.map (fun g => (g.no, without g.m id)) :=
  List.map_congr_left fun g hg => by rw [drop_ref (h.2 g hg).2 id]
end Go.Proofs.Ytglhgdkghddcaaa
