/- Nets: packets under way; New, Len, look and Look. -/
import Derived.Test.YtlagodbkkkdmkaaMux
import Derived.Test.YtlagodbkkkdmkaaRowK
import Derived.Conc.MuLone
namespace Go.Proofs.Ytlagodbkkkdmkaa
set_option linter.unusedVariables false
set_option linter.unusedSimpArgs false
open Go Go.RowKit Go.MuLone

/-- All but two blocks is as it was. -/
structure Turn2 (w w' : World) (g : Nat) (r : Option Nat) : Prop where
  os : w'.os = w.os
  tape : w'.tape = w.tape
  output : w'.output = w.output
  size : w.heap.size ≤ w'.heap.size
  block : ∀ k, k < w.heap.size → k ≠ g → some k ≠ r → w'.heap[k]? = w.heap[k]?
theorem Turn2.refl (w : World) (g : Nat) (r : Option Nat) : Turn2 w w g r := ⟨rfl, rfl, rfl, Nat.le_refl _, fun _ _ _ _ => rfl⟩
theorem Turn2.trans {w w1 w2 : World} {g : Nat} {r r1 : Option Nat} (h : Turn2 w w1 g r) (h1 : Turn2 w1 w2 g r1) (hr : r1 = r ∨ ∀ k, r1 = some k → w.heap.size ≤ k) : Turn2 w w2 g r :=
  ⟨h1.os.trans h.os, h1.tape.trans h.tape, h1.output.trans h.output, Nat.le_trans h.size h1.size, fun k hk hg hne => (h1.block k (Nat.lt_of_lt_of_le hk h.size) hg (fun e => by
    rcases hr with rfl | hr
    · exact hne e
    · have := hr k e.symm; omega)).trans (h.block k hk hg hne)⟩
theorem Turn2.below {w w' : World} {g B : Nat} {r : Option Nat} (h : Turn2 w w' g r) (hg : B ≤ g) (hr : ∀ k, r = some k → B ≤ k) (hB : B ≤ w.heap.size) : Below B w w' :=
  ⟨h.os, h.tape, h.output, h.size, fun k hk => h.block k (by omega) (by omega) (fun e => by have := hr k e.symm; omega)⟩
theorem Turn2.of_below {w w' : World} (h : Below w.heap.size w w') (g : Nat) (r : Option Nat) : Turn2 w w' g r := ⟨h.os, h.tape, h.output, h.size, fun k hk _ _ => h.block k hk⟩
theorem Turn2.setCell (w : World) (g j : Nat) (v : Value) (r : Option Nat) : Turn2 w (w.setCell ⟨g, j, none⟩ v) g r :=
  have hb := below_sets (B := g) (b := g) (Nat.le_refl g) [v] j (Below.refl g w)
  ⟨hb.os, hb.tape, hb.output, hb.size, fun k hk hg _ => Below.heap_setCell w ⟨g, j, none⟩ v k hg⟩
theorem Turn2.blk {w w' : World} {g b : Nat} {r : Option Nat} {cs : List Value} (h : Turn2 w w' g r) (hb : Blk w b cs) (hg : b ≠ g) (hr : some b ≠ r) : Blk w' b cs := by
  have hlt := hb.lt
  obtain ⟨t, hb⟩ := hb
  exact ⟨t, (h.block b hlt hg hr).trans hb⟩

/-- A net: its block is g, its lock's word is st, its packets are l; they lie behind it, in the block r. -/
def NetAt (w : World) (g : Nat) (st : Int) (r : Option Nat) (l : List V3) : Prop :=
  ∃ A c, Blk w g [.int .i32 st, .int .u32 0, .slice A l.length c] ∧ w.ownsRow (g + 1) 59 3 (.slice A l.length c) l.length (fcells l) ∧ r = (Value.slice A l.length c).ownBlock
theorem NetAt.lock {w : World} {g : Nat} {st : Int} {r : Option Nat} {l : List V3} (h : NetAt w g st r l) (x : Int) : NetAt (w.setCell ⟨g, 0, none⟩ (.int .i32 x)) g x r l := by
  obtain ⟨A, c, B, hr, e⟩ := h
  refine ⟨A, c, ?_, ?_, e⟩
  · have := B.set 0 (.int .i32 x)
    simpa using this
  · obtain ⟨h1, h2⟩ := hr
    refine ⟨h1, h2.imp id fun ⟨k, cap, cur, e1, e2, e3, e4⟩ => ⟨k, cap, cur, e1, e2, ?_, e4⟩⟩
    exact (Below.heap_setCell w ⟨g, 0, none⟩ (.int .i32 x) k (by simp only; omega)).trans e3
theorem NetAt.cell0 {w : World} {g : Nat} {st : Int} {r : Option Nat} {l : List V3} (h : NetAt w g st r l) : w.cell? ⟨g, 0, none⟩ = some (.int .i32 st) ∧ w.frozen? ⟨g, 0, none⟩ = false := by
  obtain ⟨A, c, B, _⟩ := h
  exact ⟨B.cell rfl, B.frozen 0⟩
theorem NetAt.row {w : World} {g : Nat} {st : Int} {r : Option Nat} {l : List V3} (h : NetAt w g st r l) : ∀ k, r = some k → g < k ∧ k < w.heap.size := by
  obtain ⟨A, c, B, hr, e⟩ := h
  intro k hk
  have := hr.lt k (by rw [← e]; exact hk)
  omega

theorem net_new (w : World) : Calls Try.prog 24 #[] w fun e w' => e = .returned (.pointer (some ⟨w.heap.size, 0, none⟩)) ∧ NetAt w' w.heap.size 0 none [] ∧ Below w.heap.size w w' := by
  have B := Blk.new w [.int .i32 0, .int .u32 0, .slice none 0 0] 94
  have hb := (Below.refl w.heap.size w).alloc (Nat.le_refl _) (.cells #[.int .i32 0, .int .u32 0, .slice none 0 0] 94)
  go_enter Try.func24, Try.ntmps24
  go_wp2_with fail
  go_ret
  exact ⟨rfl, ⟨none, 0, B, World.ownsRow_nil _ _ _ _, rfl⟩, hb⟩

set_option maxHeartbeats 1600000 in
theorem net_len (w : World) (g : Nat) (r : Option Nat) (l : List V3) (h : NetAt w g 0 r l) :
    Calls Try.prog 34 #[.pointer (some ⟨g, 0, none⟩)] w fun e w' => e = .returned (.int .i64 l.length) ∧ NetAt w' g 0 r l ∧ Turn2 w w' g r := by
  obtain ⟨h0, f0⟩ := h.cell0
  have HB := Lib.hid ((h.lock 1).lock 0)
  have HT := Lib.hid ((Turn2.setCell w g 0 (.int .i32 1) r).trans (Turn2.setCell _ g 0 (.int .i32 0) r) (.inl rfl))
  obtain ⟨A, c, B, _⟩ := h.lock 1
  have h2' := B.cell (j := 2) rfl
  have h1' := Lib.hid (h.lock 1).cell0.1
  clear B h
  obtain ⟨n, hn⟩ : ∃ n, n = l.length := ⟨_, rfl⟩
  rw [← hn] at h2' ⊢
  clear hn
  go_enter_defers Try.func34, Try.ntmps34
  go_wp2_with (go_at_call 44; refine (lock_free muLib ⟨g, 0, none⟩ _ h0 f0).mono ?_; rintro e w' ⟨rfl, rfl⟩)
  refine leaves_cons (f := 45) (args := #[.pointer (some ⟨g, 0, none⟩)]) (by simp) (by simp [go_sem]) ?_
  refine (unlock_deferred muLib ⟨g, 0, none⟩ .returning _ ?_ ?_).mono ?_
  · exact h1'.out
  · simp [f0]
  rintro e u' w'' ⟨rfl, rfl, rfl⟩
  exact ⟨_, results_tmp rfl _ _ _, rfl, HB.out, HT.out⟩
end Go.Proofs.Ytlagodbkkkdmkaa
